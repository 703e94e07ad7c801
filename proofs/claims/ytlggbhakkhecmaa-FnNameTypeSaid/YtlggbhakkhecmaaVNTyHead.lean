/- The heads of types, as the program's methods have them. -/
import Derived.Test.YtlggbhakkhecmaaVM7
namespace Go.Proofs.Ytlggbhakkhecmaa
open Go.RowKit

theorem head_bit (w : World) : Calls Try.prog 87 #[.agg #[]] w fun e w' => e = .returned (.string ⟨#[98]⟩) ∧ Below w.heap.size w w' := by
  go_enter Try.func87, Try.ntmps87
  go_wp2
  go_ret
  exact ⟨rfl, (Below.refl _ _).alloc (by simp) _⟩
theorem head_pair (x y : Value) (w : World) : Calls Try.prog 91 #[.agg #[x, y]] w fun e w' => e = .returned (.string ⟨#[42]⟩) ∧ Below w.heap.size w w' := by
  go_enter Try.func91, Try.ntmps91
  go_wp2
  go_ret
  exact ⟨rfl, (Below.refl _ _).alloc (by simp) _⟩
theorem head_thunk (x : Value) (w : World) : Calls Try.prog 95 #[.agg #[x]] w fun e w' => e = .returned (.string ⟨#[117]⟩) ∧ Below w.heap.size w w' := by
  go_enter Try.func95, Try.ntmps95
  go_wp2
  go_ret
  exact ⟨rfl, (Below.refl _ _).alloc (by simp) _⟩
theorem head_ret (x : Value) (w : World) : Calls Try.prog 99 #[.agg #[x]] w fun e w' => e = .returned (.string ⟨#[102]⟩) ∧ Below w.heap.size w w' := by
  go_enter Try.func99, Try.ntmps99
  go_wp2
  go_ret
  exact ⟨rfl, (Below.refl _ _).alloc (by simp) _⟩
theorem head_fn (x y : Value) (w : World) : Calls Try.prog 103 #[.agg #[x, y]] w fun e w' => e = .returned (.string ⟨#[62]⟩) ∧ Below w.heap.size w w' := by
  go_enter Try.func103, Try.ntmps103
  go_wp2
  go_ret
  exact ⟨rfl, (Below.refl _ _).alloc (by simp) _⟩
theorem head_choice (x y : Value) (w : World) : Calls Try.prog 107 #[.agg #[x, y]] w fun e w' => e = .returned (.string ⟨#[38]⟩) ∧ Below w.heap.size w w' := by
  go_enter Try.func107, Try.ntmps107
  go_wp2
  go_ret
  exact ⟨rfl, (Below.refl _ _).alloc (by simp) _⟩
end Go.Proofs.Ytlggbhakkhecmaa
