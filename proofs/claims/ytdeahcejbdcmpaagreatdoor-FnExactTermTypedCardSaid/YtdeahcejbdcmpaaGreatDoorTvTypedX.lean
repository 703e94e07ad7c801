/- TermTyped: the law, walked. -/
import Derived.Test.YtdeahcejbdcmpaaGreatDoorTu39
namespace Go.Proofs.YtdeahcejbdcmpaaGreatDoor
open Go.RowKit

set_option maxHeartbeats 1000000 in
theorem lawTermTyped (s : ByteArray) (hs : s.size ≤ 9223372036854775807) (w : World) : Calls Tryz.prog 4 #[.string s] w fun e w' => e = .returned (.bool true) ∧ Below w.heap.size w w' := by
  by_cases h : s.size ≤ 1048576
  · have HA := hid (fun W => specTermTyped_any s (by omega) W)
    have HB := hid (fun W => implTermTyped_any s (by omega) W)
    generalize (typOf [] [] s).isSome = b at HA HB
    have hq : (b != b) = false := by simp
    go_enter Tryz.func4, Tryz.ntmps4
    go_wp2_with (first | (go_at_call 17; refine (HA.out _).mono ?_; rintro e w1 ⟨rfl, hb1⟩) | (go_at_call 18; refine (HB.out _).mono ?_; rintro e w2 ⟨rfl, hb2⟩))
    go_ret
    exact ⟨rfl, hb1.trans (hb2.mono hb1.size)⟩
  · have h2 : 1048576 < s.size := by omega
    clear h
    go_enter Tryz.func4, Tryz.ntmps4
    go_wp2
    go_ret
    exact ⟨rfl, Below.refl _ _⟩
end Go.Proofs.YtdeahcejbdcmpaaGreatDoor
