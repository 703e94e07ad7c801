/- The heads of types, as the program's methods have them. -/
import Derived.Test.YtjennpiogdcngaaTyA
namespace Go.Proofs.Ytjennpiogdcngaa
open Go.RowKit

theorem head_bit (w : World) : Calls Try.prog 78 #[.agg #[]] w fun e w' => e = .returned (.string ⟨#[98]⟩) ∧ Below w.heap.size w w' := by
  go_enter Try.func78, Try.ntmps78
  go_wp2
  go_ret
  exact ⟨rfl, (Below.refl _ _).alloc (by simp) _⟩
theorem head_pair (x y : Value) (w : World) : Calls Try.prog 57 #[.agg #[x, y]] w fun e w' => e = .returned (.string ⟨#[42]⟩) ∧ Below w.heap.size w w' := by
  go_enter Try.func57, Try.ntmps57
  go_wp2
  go_ret
  exact ⟨rfl, (Below.refl _ _).alloc (by simp) _⟩
theorem head_thunk (x : Value) (w : World) : Calls Try.prog 61 #[.agg #[x]] w fun e w' => e = .returned (.string ⟨#[117]⟩) ∧ Below w.heap.size w w' := by
  go_enter Try.func61, Try.ntmps61
  go_wp2
  go_ret
  exact ⟨rfl, (Below.refl _ _).alloc (by simp) _⟩
theorem head_ret (x : Value) (w : World) : Calls Try.prog 65 #[.agg #[x]] w fun e w' => e = .returned (.string ⟨#[102]⟩) ∧ Below w.heap.size w w' := by
  go_enter Try.func65, Try.ntmps65
  go_wp2
  go_ret
  exact ⟨rfl, (Below.refl _ _).alloc (by simp) _⟩
theorem head_fn (x y : Value) (w : World) : Calls Try.prog 69 #[.agg #[x, y]] w fun e w' => e = .returned (.string ⟨#[62]⟩) ∧ Below w.heap.size w w' := by
  go_enter Try.func69, Try.ntmps69
  go_wp2
  go_ret
  exact ⟨rfl, (Below.refl _ _).alloc (by simp) _⟩
theorem head_choice (x y : Value) (w : World) : Calls Try.prog 73 #[.agg #[x, y]] w fun e w' => e = .returned (.string ⟨#[38]⟩) ∧ Below w.heap.size w w' := by
  go_enter Try.func73, Try.ntmps73
  go_wp2
  go_ret
  exact ⟨rfl, (Below.refl _ _).alloc (by simp) _⟩
end Go.Proofs.Ytjennpiogdcngaa
