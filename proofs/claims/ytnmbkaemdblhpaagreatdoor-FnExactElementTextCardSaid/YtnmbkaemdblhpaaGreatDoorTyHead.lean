/- The heads of types, as the program's methods have them. -/
import Derived.Test.YtnmbkaemdblhpaaGreatDoorTyA
namespace Go.Proofs.YtnmbkaemdblhpaaGreatDoor
open Go.RowKit

theorem head_bit (w : World) : Calls Tryz.prog 129 #[.agg #[]] w fun e w' => e = .returned (.string ⟨#[98]⟩) ∧ Below w.heap.size w w' := by
  go_enter Tryz.func129, Tryz.ntmps129
  go_wp2
  go_ret
  exact ⟨rfl, (Below.refl _ _).alloc (by simp) _⟩
theorem head_pair (x y : Value) (w : World) : Calls Tryz.prog 109 #[.agg #[x, y]] w fun e w' => e = .returned (.string ⟨#[42]⟩) ∧ Below w.heap.size w w' := by
  go_enter Tryz.func109, Tryz.ntmps109
  go_wp2
  go_ret
  exact ⟨rfl, (Below.refl _ _).alloc (by simp) _⟩
theorem head_thunk (x : Value) (w : World) : Calls Tryz.prog 113 #[.agg #[x]] w fun e w' => e = .returned (.string ⟨#[117]⟩) ∧ Below w.heap.size w w' := by
  go_enter Tryz.func113, Tryz.ntmps113
  go_wp2
  go_ret
  exact ⟨rfl, (Below.refl _ _).alloc (by simp) _⟩
theorem head_ret (x : Value) (w : World) : Calls Tryz.prog 125 #[.agg #[x]] w fun e w' => e = .returned (.string ⟨#[102]⟩) ∧ Below w.heap.size w w' := by
  go_enter Tryz.func125, Tryz.ntmps125
  go_wp2
  go_ret
  exact ⟨rfl, (Below.refl _ _).alloc (by simp) _⟩
theorem head_fn (x y : Value) (w : World) : Calls Tryz.prog 117 #[.agg #[x, y]] w fun e w' => e = .returned (.string ⟨#[62]⟩) ∧ Below w.heap.size w w' := by
  go_enter Tryz.func117, Tryz.ntmps117
  go_wp2
  go_ret
  exact ⟨rfl, (Below.refl _ _).alloc (by simp) _⟩
theorem head_choice (x y : Value) (w : World) : Calls Tryz.prog 121 #[.agg #[x, y]] w fun e w' => e = .returned (.string ⟨#[38]⟩) ∧ Below w.heap.size w w' := by
  go_enter Tryz.func121, Tryz.ntmps121
  go_wp2
  go_ret
  exact ⟨rfl, (Below.refl _ _).alloc (by simp) _⟩
end Go.Proofs.YtnmbkaemdblhpaaGreatDoor
