/- The heads of types, as the program's methods have them. -/
import Derived.Test.YtknjpdbdchnpeaaTyA
namespace Go.Proofs.Ytknjpdbdchnpeaa
open Go.RowKit

theorem head_bit (w : World) : Calls Try.prog 128 #[.agg #[]] w fun e w' => e = .returned (.string ⟨#[98]⟩) ∧ Below w.heap.size w w' := by
  go_enter Try.func128, Try.ntmps128
  go_wp2
  go_ret
  exact ⟨rfl, (Below.refl _ _).alloc (by simp) _⟩
theorem head_pair (x y : Value) (w : World) : Calls Try.prog 133 #[.agg #[x, y]] w fun e w' => e = .returned (.string ⟨#[42]⟩) ∧ Below w.heap.size w w' := by
  go_enter Try.func133, Try.ntmps133
  go_wp2
  go_ret
  exact ⟨rfl, (Below.refl _ _).alloc (by simp) _⟩
theorem head_thunk (x : Value) (w : World) : Calls Try.prog 137 #[.agg #[x]] w fun e w' => e = .returned (.string ⟨#[117]⟩) ∧ Below w.heap.size w w' := by
  go_enter Try.func137, Try.ntmps137
  go_wp2
  go_ret
  exact ⟨rfl, (Below.refl _ _).alloc (by simp) _⟩
theorem head_ret (x : Value) (w : World) : Calls Try.prog 141 #[.agg #[x]] w fun e w' => e = .returned (.string ⟨#[102]⟩) ∧ Below w.heap.size w w' := by
  go_enter Try.func141, Try.ntmps141
  go_wp2
  go_ret
  exact ⟨rfl, (Below.refl _ _).alloc (by simp) _⟩
theorem head_fn (x y : Value) (w : World) : Calls Try.prog 145 #[.agg #[x, y]] w fun e w' => e = .returned (.string ⟨#[62]⟩) ∧ Below w.heap.size w w' := by
  go_enter Try.func145, Try.ntmps145
  go_wp2
  go_ret
  exact ⟨rfl, (Below.refl _ _).alloc (by simp) _⟩
theorem head_choice (x y : Value) (w : World) : Calls Try.prog 149 #[.agg #[x, y]] w fun e w' => e = .returned (.string ⟨#[38]⟩) ∧ Below w.heap.size w w' := by
  go_enter Try.func149, Try.ntmps149
  go_wp2
  go_ret
  exact ⟨rfl, (Below.refl _ _).alloc (by simp) _⟩
end Go.Proofs.Ytknjpdbdchnpeaa
