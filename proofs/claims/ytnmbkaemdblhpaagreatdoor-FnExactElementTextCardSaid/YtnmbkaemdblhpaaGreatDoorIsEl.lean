/- isElement of the program. -/
import Derived.Test.YtnmbkaemdblhpaaGreatDoorCountE
namespace Go.Proofs.YtnmbkaemdblhpaaGreatDoor
open Go.RowKit Go.Maps

theorem cntV_ge (o : Option Nat) : -1 ≤ cntV o := by
  cases o with
  | none => decide
  | some n => show -1 ≤ (n : Int); omega
theorem cntV_pos {o : Option Nat} {k : Int} (h0 : 0 ≤ k) (h : k < cntV o) : ∃ n, o = some n ∧ cntV o = (n : Int) := by
  cases o with
  | none => have : cntV none = -1 := rfl; omega
  | some n => exact ⟨n, rfl, rfl⟩
theorem isElement_any (k c : Int) (w : World) : Calls Tryz.prog 14 #[.int .i64 k, .int .i64 c] w fun e w' => e = .returned (.bool (decide (0 ≤ k ∧ k < c))) ∧ w = w' := by
  by_cases h0 : 0 ≤ k
  · by_cases h1 : k < c
    · have e : decide (0 ≤ k ∧ k < c) = true := decide_eq_true ⟨h0, h1⟩
      rw [e]
      go_enter Tryz.func14, Tryz.ntmps14
      go_wp2
      go_ret
      exact ⟨rfl, rfl⟩
    · have e : decide (0 ≤ k ∧ k < c) = false := decide_eq_false (fun h => h1 h.2)
      rw [e]
      go_enter Tryz.func14, Tryz.ntmps14
      go_wp2
      go_ret
      exact ⟨rfl, rfl⟩
  · have e : decide (0 ≤ k ∧ k < c) = false := decide_eq_false (fun h => h0 h.1)
    rw [e]
    go_enter Tryz.func14, Tryz.ntmps14
    go_wp2
    go_ret
    exact ⟨rfl, rfl⟩

end Go.Proofs.YtnmbkaemdblhpaaGreatDoor
