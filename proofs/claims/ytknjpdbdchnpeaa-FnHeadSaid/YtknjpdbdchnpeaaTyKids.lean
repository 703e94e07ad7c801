/- The parts of types, as the program's methods list them. -/
import Derived.Test.YtknjpdbdchnpeaaTyA
namespace Go.Proofs.Ytknjpdbdchnpeaa
open Go.RowKit

theorem kids_bit (w : World) : Calls Try.prog 129 #[.agg #[]] w fun e w' => e = .returned (.slice none 0 0) ∧ Below w.heap.size w w' := by
  go_enter Try.func129, Try.ntmps129
  go_wp2
  go_ret
  exact ⟨rfl, (Below.refl _ _).alloc (by simp) _⟩
theorem kids_pair (tx : Ty) (ty : Ty) (w : World) : Calls Try.prog 134 #[.agg #[tx.val, ty.val]] w fun e w' => ∃ b, e = .returned (.slice (some ⟨b, 0, none⟩) 2 2) ∧ w'.heap[b]? = some (.cells #[tx.val, ty.val] 50 (0, 0)) ∧ Below w.heap.size w w' := by
  obtain ⟨ux, vx, hx⟩ := tx.val_iface
  rw [hx]
  obtain ⟨uy, vy, hy⟩ := ty.val_iface
  rw [hy]
  go_enter Try.func134, Try.ntmps134
  go_wp2
  go_ret
  exact ⟨w.heap.size + 1, rfl, heap_new _ _ _ (by simp), ((Below.refl _ _).alloc (by simp) _).alloc (by simp) _⟩
theorem kids_thunk (tx : Ty) (w : World) : Calls Try.prog 138 #[.agg #[tx.val]] w fun e w' => ∃ b, e = .returned (.slice (some ⟨b, 0, none⟩) 1 1) ∧ w'.heap[b]? = some (.cells #[tx.val] 50 (0, 0)) ∧ Below w.heap.size w w' := by
  obtain ⟨ux, vx, hx⟩ := tx.val_iface
  rw [hx]
  go_enter Try.func138, Try.ntmps138
  go_wp2
  go_ret
  exact ⟨w.heap.size + 1, rfl, heap_new _ _ _ (by simp), ((Below.refl _ _).alloc (by simp) _).alloc (by simp) _⟩
theorem kids_ret (tx : Ty) (w : World) : Calls Try.prog 142 #[.agg #[tx.val]] w fun e w' => ∃ b, e = .returned (.slice (some ⟨b, 0, none⟩) 1 1) ∧ w'.heap[b]? = some (.cells #[tx.val] 50 (0, 0)) ∧ Below w.heap.size w w' := by
  obtain ⟨ux, vx, hx⟩ := tx.val_iface
  rw [hx]
  go_enter Try.func142, Try.ntmps142
  go_wp2
  go_ret
  exact ⟨w.heap.size + 1, rfl, heap_new _ _ _ (by simp), ((Below.refl _ _).alloc (by simp) _).alloc (by simp) _⟩
theorem kids_fn (tx : Ty) (ty : Ty) (w : World) : Calls Try.prog 146 #[.agg #[tx.val, ty.val]] w fun e w' => ∃ b, e = .returned (.slice (some ⟨b, 0, none⟩) 2 2) ∧ w'.heap[b]? = some (.cells #[tx.val, ty.val] 50 (0, 0)) ∧ Below w.heap.size w w' := by
  obtain ⟨ux, vx, hx⟩ := tx.val_iface
  rw [hx]
  obtain ⟨uy, vy, hy⟩ := ty.val_iface
  rw [hy]
  go_enter Try.func146, Try.ntmps146
  go_wp2
  go_ret
  exact ⟨w.heap.size + 1, rfl, heap_new _ _ _ (by simp), ((Below.refl _ _).alloc (by simp) _).alloc (by simp) _⟩
theorem kids_choice (tx : Ty) (ty : Ty) (w : World) : Calls Try.prog 150 #[.agg #[tx.val, ty.val]] w fun e w' => ∃ b, e = .returned (.slice (some ⟨b, 0, none⟩) 2 2) ∧ w'.heap[b]? = some (.cells #[tx.val, ty.val] 50 (0, 0)) ∧ Below w.heap.size w w' := by
  obtain ⟨ux, vx, hx⟩ := tx.val_iface
  rw [hx]
  obtain ⟨uy, vy, hy⟩ := ty.val_iface
  rw [hy]
  go_enter Try.func150, Try.ntmps150
  go_wp2
  go_ret
  exact ⟨w.heap.size + 1, rfl, heap_new _ _ _ (by simp), ((Below.refl _ _).alloc (by simp) _).alloc (by simp) _⟩
end Go.Proofs.Ytknjpdbdchnpeaa
