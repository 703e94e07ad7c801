/- The parts of types, as the program's methods list them. -/
import Derived.Test.YtnphopnhioogdaaDoorTyA
namespace Go.Proofs.YtnphopnhioogdaaDoor
open Go.RowKit

theorem kids_bit (w : World) : Calls Tryd.prog 137 #[.agg #[]] w fun e w' => e = .returned (.slice none 0 0) ∧ Below w.heap.size w w' := by
  go_enter Tryd.func137, Tryd.ntmps137
  go_wp2
  go_ret
  exact ⟨rfl, (Below.refl _ _).alloc (by simp) _⟩
theorem kids_pair (tx : Ty) (ty : Ty) (w : World) : Calls Tryd.prog 141 #[.agg #[tx.val, ty.val]] w fun e w' => ∃ b, e = .returned (.slice (some ⟨b, 0, none⟩) 2 2) ∧ w'.heap[b]? = some (.cells #[tx.val, ty.val] 47 (0, 0)) ∧ Below w.heap.size w w' := by
  obtain ⟨ux, vx, hx⟩ := tx.val_iface
  rw [hx]
  obtain ⟨uy, vy, hy⟩ := ty.val_iface
  rw [hy]
  go_enter Tryd.func141, Tryd.ntmps141
  go_wp2
  go_ret
  exact ⟨w.heap.size + 1, rfl, heap_new _ _ _ (by simp), ((Below.refl _ _).alloc (by simp) _).alloc (by simp) _⟩
theorem kids_thunk (tx : Ty) (w : World) : Calls Tryd.prog 145 #[.agg #[tx.val]] w fun e w' => ∃ b, e = .returned (.slice (some ⟨b, 0, none⟩) 1 1) ∧ w'.heap[b]? = some (.cells #[tx.val] 47 (0, 0)) ∧ Below w.heap.size w w' := by
  obtain ⟨ux, vx, hx⟩ := tx.val_iface
  rw [hx]
  go_enter Tryd.func145, Tryd.ntmps145
  go_wp2
  go_ret
  exact ⟨w.heap.size + 1, rfl, heap_new _ _ _ (by simp), ((Below.refl _ _).alloc (by simp) _).alloc (by simp) _⟩
theorem kids_ret (tx : Ty) (w : World) : Calls Tryd.prog 149 #[.agg #[tx.val]] w fun e w' => ∃ b, e = .returned (.slice (some ⟨b, 0, none⟩) 1 1) ∧ w'.heap[b]? = some (.cells #[tx.val] 47 (0, 0)) ∧ Below w.heap.size w w' := by
  obtain ⟨ux, vx, hx⟩ := tx.val_iface
  rw [hx]
  go_enter Tryd.func149, Tryd.ntmps149
  go_wp2
  go_ret
  exact ⟨w.heap.size + 1, rfl, heap_new _ _ _ (by simp), ((Below.refl _ _).alloc (by simp) _).alloc (by simp) _⟩
theorem kids_fn (tx : Ty) (ty : Ty) (w : World) : Calls Tryd.prog 153 #[.agg #[tx.val, ty.val]] w fun e w' => ∃ b, e = .returned (.slice (some ⟨b, 0, none⟩) 2 2) ∧ w'.heap[b]? = some (.cells #[tx.val, ty.val] 47 (0, 0)) ∧ Below w.heap.size w w' := by
  obtain ⟨ux, vx, hx⟩ := tx.val_iface
  rw [hx]
  obtain ⟨uy, vy, hy⟩ := ty.val_iface
  rw [hy]
  go_enter Tryd.func153, Tryd.ntmps153
  go_wp2
  go_ret
  exact ⟨w.heap.size + 1, rfl, heap_new _ _ _ (by simp), ((Below.refl _ _).alloc (by simp) _).alloc (by simp) _⟩
theorem kids_choice (tx : Ty) (ty : Ty) (w : World) : Calls Tryd.prog 157 #[.agg #[tx.val, ty.val]] w fun e w' => ∃ b, e = .returned (.slice (some ⟨b, 0, none⟩) 2 2) ∧ w'.heap[b]? = some (.cells #[tx.val, ty.val] 47 (0, 0)) ∧ Below w.heap.size w w' := by
  obtain ⟨ux, vx, hx⟩ := tx.val_iface
  rw [hx]
  obtain ⟨uy, vy, hy⟩ := ty.val_iface
  rw [hy]
  go_enter Tryd.func157, Tryd.ntmps157
  go_wp2
  go_ret
  exact ⟨w.heap.size + 1, rfl, heap_new _ _ _ (by simp), ((Below.refl _ _).alloc (by simp) _).alloc (by simp) _⟩
end Go.Proofs.YtnphopnhioogdaaDoor
