/- Quotients and remainders of small numbers, in the walk's spellings. -/
import Derived.Test.YtnmbkaemdblhpaaGreatDoorImplA
namespace Go.Proofs.YtnmbkaemdblhpaaGreatDoor
open Go.RowKit

theorem rest_t (k y : Nat) : (k : Int).tmod (y : Int) = ((k % y : Nat) : Int) := rfl
theorem quot_t (k y : Nat) : (k : Int).tdiv (y : Int) = ((k / y : Nat) : Int) := rfl
theorem wrap_quot (k y : Nat) (hk : k ≤ 5000) : IntKind.i64.wrap ((k : Int).tdiv (y : Int)) = ((k / y : Nat) : Int) := by
  rw [quot_t]
  have h := Nat.div_le_self k y
  have key : ∀ m : Nat, m ≤ k → IntKind.i64.wrap (m : Int) = m := fun m hm => IntWalk.i64_in _ (by omega)
  exact key _ h
theorem wrap_rest (k y : Nat) (hk : k ≤ 5000) : IntKind.i64.wrap ((k : Int).tmod (y : Int)) = ((k % y : Nat) : Int) := by
  rw [rest_t]
  have h := Nat.mod_le k y
  have key : ∀ m : Nat, m ≤ k → IntKind.i64.wrap (m : Int) = m := fun m hm => IntWalk.i64_in _ (by omega)
  exact key _ h
theorem wrap_quot_e (k y : Nat) (hk : k ≤ 5000) : IntKind.i64.wrap ((k : Int) / (y : Int)) = ((k / y : Nat) : Int) := by
  have e : (k : Int) / (y : Int) = ((k / y : Nat) : Int) := rfl
  rw [e, ← quot_t]
  exact (show IntKind.i64.wrap ((k : Int).tdiv (y : Int)) = _ from wrap_quot k y hk)
theorem wrap64_quot (k y : Nat) (hk : k ≤ 5000) : wrap64 ((k : Int) / (y : Int)) = ((k / y : Nat) : Int) := by
  have h := Nat.div_le_self k y
  have e : (k : Int) / (y : Int) = ((k / y : Nat) : Int) := rfl
  rw [e]
  have key : ∀ m : Nat, m ≤ k → wrap64 (m : Int) = m := fun m hm => IntWalk.wrap64_in _ (by omega)
  exact key _ h
theorem wrap64_quot_t (k y : Nat) (hk : k ≤ 5000) : wrap64 ((k : Int).tdiv (y : Int)) = ((k / y : Nat) : Int) := wrap64_quot k y hk
theorem rest_e (k y : Nat) : (k : Int) % (y : Int) = ((k % y : Nat) : Int) := rfl
end Go.Proofs.YtnmbkaemdblhpaaGreatDoor
