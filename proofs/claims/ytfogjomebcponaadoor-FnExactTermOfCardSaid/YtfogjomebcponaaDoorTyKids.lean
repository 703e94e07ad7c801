/- The parts of types, as the program's methods list them. -/
import Derived.Test.YtfogjomebcponaaDoorTyA
namespace Go.Proofs.YtfogjomebcponaaDoor
open Go.RowKit

theorem kids_bit (w : World) : Calls Tryd.prog 138 #[.agg #[]] w fun e w' => e = .returned (.slice none 0 0) ∧ Below w.heap.size w w' := by
  go_enter Tryd.func138, Tryd.ntmps138
  go_wp2
  go_ret
  exact ⟨rfl, (Below.refl _ _).alloc (by simp) _⟩
theorem kids_pair (tx : Ty) (ty : Ty) (w : World) : Calls Tryd.prog 117 #[.agg #[tx.val, ty.val]] w fun e w' => ∃ b, e = .returned (.slice (some ⟨b, 0, none⟩) 2 2) ∧ w'.heap[b]? = some (.cells #[tx.val, ty.val] 32 (0, 0)) ∧ Below w.heap.size w w' := by
  obtain ⟨ux, vx, hx⟩ := tx.val_iface
  rw [hx]
  obtain ⟨uy, vy, hy⟩ := ty.val_iface
  rw [hy]
  go_enter Tryd.func117, Tryd.ntmps117
  go_wp2
  go_ret
  exact ⟨w.heap.size + 1, rfl, heap_new _ _ _ (by simp), ((Below.refl _ _).alloc (by simp) _).alloc (by simp) _⟩
theorem kids_thunk (tx : Ty) (w : World) : Calls Tryd.prog 121 #[.agg #[tx.val]] w fun e w' => ∃ b, e = .returned (.slice (some ⟨b, 0, none⟩) 1 1) ∧ w'.heap[b]? = some (.cells #[tx.val] 32 (0, 0)) ∧ Below w.heap.size w w' := by
  obtain ⟨ux, vx, hx⟩ := tx.val_iface
  rw [hx]
  go_enter Tryd.func121, Tryd.ntmps121
  go_wp2
  go_ret
  exact ⟨w.heap.size + 1, rfl, heap_new _ _ _ (by simp), ((Below.refl _ _).alloc (by simp) _).alloc (by simp) _⟩
theorem kids_ret (tx : Ty) (w : World) : Calls Tryd.prog 125 #[.agg #[tx.val]] w fun e w' => ∃ b, e = .returned (.slice (some ⟨b, 0, none⟩) 1 1) ∧ w'.heap[b]? = some (.cells #[tx.val] 32 (0, 0)) ∧ Below w.heap.size w w' := by
  obtain ⟨ux, vx, hx⟩ := tx.val_iface
  rw [hx]
  go_enter Tryd.func125, Tryd.ntmps125
  go_wp2
  go_ret
  exact ⟨w.heap.size + 1, rfl, heap_new _ _ _ (by simp), ((Below.refl _ _).alloc (by simp) _).alloc (by simp) _⟩
theorem kids_fn (tx : Ty) (ty : Ty) (w : World) : Calls Tryd.prog 129 #[.agg #[tx.val, ty.val]] w fun e w' => ∃ b, e = .returned (.slice (some ⟨b, 0, none⟩) 2 2) ∧ w'.heap[b]? = some (.cells #[tx.val, ty.val] 32 (0, 0)) ∧ Below w.heap.size w w' := by
  obtain ⟨ux, vx, hx⟩ := tx.val_iface
  rw [hx]
  obtain ⟨uy, vy, hy⟩ := ty.val_iface
  rw [hy]
  go_enter Tryd.func129, Tryd.ntmps129
  go_wp2
  go_ret
  exact ⟨w.heap.size + 1, rfl, heap_new _ _ _ (by simp), ((Below.refl _ _).alloc (by simp) _).alloc (by simp) _⟩
theorem kids_choice (tx : Ty) (ty : Ty) (w : World) : Calls Tryd.prog 133 #[.agg #[tx.val, ty.val]] w fun e w' => ∃ b, e = .returned (.slice (some ⟨b, 0, none⟩) 2 2) ∧ w'.heap[b]? = some (.cells #[tx.val, ty.val] 32 (0, 0)) ∧ Below w.heap.size w w' := by
  obtain ⟨ux, vx, hx⟩ := tx.val_iface
  rw [hx]
  obtain ⟨uy, vy, hy⟩ := ty.val_iface
  rw [hy]
  go_enter Tryd.func133, Tryd.ntmps133
  go_wp2
  go_ret
  exact ⟨w.heap.size + 1, rfl, heap_new _ _ _ (by simp), ((Below.refl _ _).alloc (by simp) _).alloc (by simp) _⟩
end Go.Proofs.YtfogjomebcponaaDoor
