/- TermOf: the law, walked. -/
import Derived.Test.YtfogjomebcponaaDoorOfX0
namespace Go.Proofs.YtfogjomebcponaaDoor
open Go.RowKit

set_option maxHeartbeats 1000000 in
theorem lawTermOf (s : ByteArray) (hs : s.size ≤ 9223372036854775807) (w : World) : Calls Tryd.prog 3 #[.string s] w fun e w' => e = .returned (.bool true) ∧ Below w.heap.size w w' := by
  by_cases h : s.size ≤ 1048576
  · have HA := hid (fun W => specTermOf_any s (by omega) W)
    have HB := hid (fun W => implTermOf_any s (by omega) W)
    obtain ⟨X, hX⟩ : ∃ X, ofText (readTy s) = X := ⟨_, rfl⟩
    obtain ⟨D, hD⟩ : ∃ D, (readTy s).isSome = D := ⟨_, rfl⟩
    have HP := hid (fun W e W' (h : OfPost (readTy s) W e W') => (show e = .returned (.tuple #[.string X, .bool D]) ∧ Below W.heap.size W W' from by rw [← hX, ← hD]; exact h))
    have hq : (!X.toList == X.toList) = false := by simp
    have hq2 : (D != D) = false := by simp
    clear hX hD
    go_enter Tryd.func3, Tryd.ntmps3
    go_wp2_with (first | (go_at_call 5; refine (HA.out _).mono ?_; rintro e w1 hp; obtain ⟨rfl, hb1⟩ := HP.out _ _ _ hp; clear hp) | (go_at_call 6; refine (HB.out _).mono ?_; rintro e w2 hp; obtain ⟨rfl, hb2⟩ := HP.out _ _ _ hp; clear hp))
    go_ret
    exact ⟨rfl, hb1.trans (hb2.mono hb1.size)⟩
  · have h2 : 1048576 < s.size := by omega
    clear h
    go_enter Tryd.func3, Tryd.ntmps3
    go_wp2
    go_ret
    exact ⟨rfl, Below.refl _ _⟩
end Go.Proofs.YtfogjomebcponaaDoor
