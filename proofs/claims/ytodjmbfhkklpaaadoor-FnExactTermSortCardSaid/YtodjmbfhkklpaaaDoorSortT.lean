/- TermSort: the law, walked. -/
import Derived.Test.YtodjmbfhkklpaaaDoorSortS
import Derived.Test.YtodjmbfhkklpaaaDoorTermS
namespace Go.Proofs.YtodjmbfhkklpaaaDoor
open Go.RowKit

set_option maxHeartbeats 1000000 in
theorem lawTermSort (s : ByteArray) (hs : s.size ≤ 9223372036854775807) (w : World) : Calls Tryd.prog 5 #[.string s] w fun e w' => e = .returned (.bool true) ∧ Below w.heap.size w w' := by
  by_cases h : s.size ≤ 1048576
  · have HA := hid (fun W => specTermSort_any s (by omega) W)
    have HB := hid (fun W => implTermSort_any s (by omega) W)
    have hq : (!(sortOf s).toList == (sortOf s).toList) = false := by simp
    go_enter Tryd.func5, Tryd.ntmps5
    go_wp2_with (first | (go_at_call 14; refine (HA.out _).mono ?_; rintro e w1 ⟨rfl, hb1⟩) | (go_at_call 15; refine (HB.out _).mono ?_; rintro e w2 ⟨rfl, hb2⟩))
    go_ret
    exact ⟨rfl, hb1.trans (hb2.mono hb1.size)⟩
  · have h2 : 1048576 < s.size := by omega
    clear h
    go_enter Tryd.func5, Tryd.ntmps5
    go_wp2
    go_ret
    exact ⟨rfl, Below.refl _ _⟩
end Go.Proofs.YtodjmbfhkklpaaaDoor
