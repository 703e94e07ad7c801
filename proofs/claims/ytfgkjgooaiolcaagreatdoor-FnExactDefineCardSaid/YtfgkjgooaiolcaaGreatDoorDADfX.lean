/- Define: the law, walked. -/
import Derived.Test.YtfgkjgooaiolcaaGreatDoorDZ39
namespace Go.Proofs.YtfgkjgooaiolcaaGreatDoor
open Go.RowKit

set_option maxHeartbeats 1000000 in
theorem lawDefine (s : ByteArray) (hs : s.size ≤ 9223372036854775807) (k : Int) (w : World) : Calls Tryz.prog 4 #[.string s, .int .i64 k] w fun e w' => e = .returned (.bool true) ∧ Below w.heap.size w w' := by
  by_cases h : s.size ≤ 1048576
  · have HA := hid (fun W => specDefine_any s (by omega) k W)
    have HB := hid (fun W => implDefine_any s (by omega) k W)
    obtain ⟨X, D, hX⟩ := txV_shape (dfX (readTy s) k)
    have HP := hid (fun W e W' (h : TxPost (dfX (readTy s) k) W e W') => (show e = .returned (.tuple #[.string X, .bool D]) ∧ Below W.heap.size W W' from by rw [← hX]; exact h))
    have hq : (!X.toList == X.toList) = false := by simp
    have hq2 : (D != D) = false := by simp
    clear hX
    go_enter Tryz.func4, Tryz.ntmps4
    go_wp2_with (first | (go_at_call 12; refine (HA.out _).mono ?_; rintro e w1 hp; obtain ⟨rfl, hb1⟩ := HP.out _ _ _ hp; clear hp) | (go_at_call 9; refine (HB.out _).mono ?_; rintro e w2 hp; obtain ⟨rfl, hb2⟩ := HP.out _ _ _ hp; clear hp))
    go_ret
    exact ⟨rfl, hb1.trans (hb2.mono hb1.size)⟩
  · have h2 : 1048576 < s.size := by omega
    clear h
    go_enter Tryz.func4, Tryz.ntmps4
    go_wp2
    go_ret
    exact ⟨rfl, Below.refl _ _⟩
end Go.Proofs.YtfgkjgooaiolcaaGreatDoor
