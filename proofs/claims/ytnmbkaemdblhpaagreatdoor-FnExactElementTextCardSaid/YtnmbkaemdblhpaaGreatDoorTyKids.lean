/- The parts of types, as the program's methods list them. -/
import Derived.Test.YtnmbkaemdblhpaaGreatDoorTyA
namespace Go.Proofs.YtnmbkaemdblhpaaGreatDoor
open Go.RowKit

theorem kids_bit (w : World) : Calls Tryz.prog 130 #[.agg #[]] w fun e w' => e = .returned (.slice none 0 0) ∧ Below w.heap.size w w' := by
  go_enter Tryz.func130, Tryz.ntmps130
  go_wp2
  go_ret
  exact ⟨rfl, (Below.refl _ _).alloc (by simp) _⟩
theorem kids_pair (tx : Ty) (ty : Ty) (w : World) : Calls Tryz.prog 110 #[.agg #[tx.val, ty.val]] w fun e w' => ∃ b, e = .returned (.slice (some ⟨b, 0, none⟩) 2 2) ∧ w'.heap[b]? = some (.cells #[tx.val, ty.val] 35 (0, 0)) ∧ Below w.heap.size w w' := by
  obtain ⟨ux, vx, hx⟩ := tx.val_iface
  rw [hx]
  obtain ⟨uy, vy, hy⟩ := ty.val_iface
  rw [hy]
  go_enter Tryz.func110, Tryz.ntmps110
  go_wp2
  go_ret
  exact ⟨w.heap.size + 1, rfl, heap_new _ _ _ (by simp), ((Below.refl _ _).alloc (by simp) _).alloc (by simp) _⟩
theorem kids_thunk (tx : Ty) (w : World) : Calls Tryz.prog 114 #[.agg #[tx.val]] w fun e w' => ∃ b, e = .returned (.slice (some ⟨b, 0, none⟩) 1 1) ∧ w'.heap[b]? = some (.cells #[tx.val] 35 (0, 0)) ∧ Below w.heap.size w w' := by
  obtain ⟨ux, vx, hx⟩ := tx.val_iface
  rw [hx]
  go_enter Tryz.func114, Tryz.ntmps114
  go_wp2
  go_ret
  exact ⟨w.heap.size + 1, rfl, heap_new _ _ _ (by simp), ((Below.refl _ _).alloc (by simp) _).alloc (by simp) _⟩
theorem kids_ret (tx : Ty) (w : World) : Calls Tryz.prog 126 #[.agg #[tx.val]] w fun e w' => ∃ b, e = .returned (.slice (some ⟨b, 0, none⟩) 1 1) ∧ w'.heap[b]? = some (.cells #[tx.val] 35 (0, 0)) ∧ Below w.heap.size w w' := by
  obtain ⟨ux, vx, hx⟩ := tx.val_iface
  rw [hx]
  go_enter Tryz.func126, Tryz.ntmps126
  go_wp2
  go_ret
  exact ⟨w.heap.size + 1, rfl, heap_new _ _ _ (by simp), ((Below.refl _ _).alloc (by simp) _).alloc (by simp) _⟩
theorem kids_fn (tx : Ty) (ty : Ty) (w : World) : Calls Tryz.prog 118 #[.agg #[tx.val, ty.val]] w fun e w' => ∃ b, e = .returned (.slice (some ⟨b, 0, none⟩) 2 2) ∧ w'.heap[b]? = some (.cells #[tx.val, ty.val] 35 (0, 0)) ∧ Below w.heap.size w w' := by
  obtain ⟨ux, vx, hx⟩ := tx.val_iface
  rw [hx]
  obtain ⟨uy, vy, hy⟩ := ty.val_iface
  rw [hy]
  go_enter Tryz.func118, Tryz.ntmps118
  go_wp2
  go_ret
  exact ⟨w.heap.size + 1, rfl, heap_new _ _ _ (by simp), ((Below.refl _ _).alloc (by simp) _).alloc (by simp) _⟩
theorem kids_choice (tx : Ty) (ty : Ty) (w : World) : Calls Tryz.prog 122 #[.agg #[tx.val, ty.val]] w fun e w' => ∃ b, e = .returned (.slice (some ⟨b, 0, none⟩) 2 2) ∧ w'.heap[b]? = some (.cells #[tx.val, ty.val] 35 (0, 0)) ∧ Below w.heap.size w w' := by
  obtain ⟨ux, vx, hx⟩ := tx.val_iface
  rw [hx]
  obtain ⟨uy, vy, hy⟩ := ty.val_iface
  rw [hy]
  go_enter Tryz.func122, Tryz.ntmps122
  go_wp2
  go_ret
  exact ⟨w.heap.size + 1, rfl, heap_new _ _ _ (by simp), ((Below.refl _ _).alloc (by simp) _).alloc (by simp) _⟩
end Go.Proofs.YtnmbkaemdblhpaaGreatDoor
