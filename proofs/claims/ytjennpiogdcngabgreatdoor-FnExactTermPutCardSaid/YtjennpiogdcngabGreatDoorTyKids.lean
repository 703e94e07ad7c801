/- The parts of types, as the program's methods list them. -/
import Derived.Test.YtjennpiogdcngabGreatDoorTyA
namespace Go.Proofs.YtjennpiogdcngabGreatDoor
open Go.RowKit

theorem kids_bit (w : World) : Calls Tryz.prog 208 #[.agg #[]] w fun e w' => e = .returned (.slice none 0 0) ∧ Below w.heap.size w w' := by
  go_enter Tryz.func208, Tryz.ntmps208
  go_wp2
  go_ret
  exact ⟨rfl, (Below.refl _ _).alloc (by simp) _⟩
theorem kids_pair (tx : Ty) (ty : Ty) (w : World) : Calls Tryz.prog 188 #[.agg #[tx.val, ty.val]] w fun e w' => ∃ b, e = .returned (.slice (some ⟨b, 0, none⟩) 2 2) ∧ w'.heap[b]? = some (.cells #[tx.val, ty.val] 61 (0, 0)) ∧ Below w.heap.size w w' := by
  obtain ⟨ux, vx, hx⟩ := tx.val_iface
  rw [hx]
  obtain ⟨uy, vy, hy⟩ := ty.val_iface
  rw [hy]
  go_enter Tryz.func188, Tryz.ntmps188
  go_wp2
  go_ret
  exact ⟨w.heap.size + 1, rfl, heap_new _ _ _ (by simp), ((Below.refl _ _).alloc (by simp) _).alloc (by simp) _⟩
theorem kids_thunk (tx : Ty) (w : World) : Calls Tryz.prog 192 #[.agg #[tx.val]] w fun e w' => ∃ b, e = .returned (.slice (some ⟨b, 0, none⟩) 1 1) ∧ w'.heap[b]? = some (.cells #[tx.val] 61 (0, 0)) ∧ Below w.heap.size w w' := by
  obtain ⟨ux, vx, hx⟩ := tx.val_iface
  rw [hx]
  go_enter Tryz.func192, Tryz.ntmps192
  go_wp2
  go_ret
  exact ⟨w.heap.size + 1, rfl, heap_new _ _ _ (by simp), ((Below.refl _ _).alloc (by simp) _).alloc (by simp) _⟩
theorem kids_ret (tx : Ty) (w : World) : Calls Tryz.prog 196 #[.agg #[tx.val]] w fun e w' => ∃ b, e = .returned (.slice (some ⟨b, 0, none⟩) 1 1) ∧ w'.heap[b]? = some (.cells #[tx.val] 61 (0, 0)) ∧ Below w.heap.size w w' := by
  obtain ⟨ux, vx, hx⟩ := tx.val_iface
  rw [hx]
  go_enter Tryz.func196, Tryz.ntmps196
  go_wp2
  go_ret
  exact ⟨w.heap.size + 1, rfl, heap_new _ _ _ (by simp), ((Below.refl _ _).alloc (by simp) _).alloc (by simp) _⟩
theorem kids_fn (tx : Ty) (ty : Ty) (w : World) : Calls Tryz.prog 200 #[.agg #[tx.val, ty.val]] w fun e w' => ∃ b, e = .returned (.slice (some ⟨b, 0, none⟩) 2 2) ∧ w'.heap[b]? = some (.cells #[tx.val, ty.val] 61 (0, 0)) ∧ Below w.heap.size w w' := by
  obtain ⟨ux, vx, hx⟩ := tx.val_iface
  rw [hx]
  obtain ⟨uy, vy, hy⟩ := ty.val_iface
  rw [hy]
  go_enter Tryz.func200, Tryz.ntmps200
  go_wp2
  go_ret
  exact ⟨w.heap.size + 1, rfl, heap_new _ _ _ (by simp), ((Below.refl _ _).alloc (by simp) _).alloc (by simp) _⟩
theorem kids_choice (tx : Ty) (ty : Ty) (w : World) : Calls Tryz.prog 204 #[.agg #[tx.val, ty.val]] w fun e w' => ∃ b, e = .returned (.slice (some ⟨b, 0, none⟩) 2 2) ∧ w'.heap[b]? = some (.cells #[tx.val, ty.val] 61 (0, 0)) ∧ Below w.heap.size w w' := by
  obtain ⟨ux, vx, hx⟩ := tx.val_iface
  rw [hx]
  obtain ⟨uy, vy, hy⟩ := ty.val_iface
  rw [hy]
  go_enter Tryz.func204, Tryz.ntmps204
  go_wp2
  go_ret
  exact ⟨w.heap.size + 1, rfl, heap_new _ _ _ (by simp), ((Below.refl _ _).alloc (by simp) _).alloc (by simp) _⟩
end Go.Proofs.YtjennpiogdcngabGreatDoor
