/- The law of ValueType, walked. -/
import Derived.Test.YtlggbhakkhecmaaVtI
namespace Go.Proofs.Ytlggbhakkhecmaa
open Go.RowKit

set_option maxHeartbeats 1000000 in
theorem lawValueType (s : ByteArray) (hs : s.size ≤ 9223372036854775807) (w : World) : Calls Try.prog 5 #[.string s] w fun e w' => e = .returned (.bool true) ∧ Below w.heap.size w w' := by
  by_cases h : s.size ≤ 1048576
  · have HA := hid (fun W => specValueType_any s (by omega) W)
    have HB := hid (fun W => implValueType_any s (by omega) W)
    obtain ⟨X, D, hX⟩ := txV_shape (vtX s)
    have HP := hid (fun W e W' (h : TxPost (vtX s) W e W') => (show e = .returned (.tuple #[.string X, .bool D]) ∧ Below W.heap.size W W' from by rw [← hX]; exact h))
    have hq : (!X.toList == X.toList) = false := by simp
    have hq2 : (D != D) = false := by simp
    clear hX
    go_enter Try.func5, Try.ntmps5
    go_wp2_with (first | (go_at_call 8; refine (HA.out _).mono ?_; rintro e w1 hp; obtain ⟨rfl, hb1⟩ := HP.out _ _ _ hp; clear hp) | (go_at_call 7; refine (HB.out _).mono ?_; rintro e w2 hp; obtain ⟨rfl, hb2⟩ := HP.out _ _ _ hp; clear hp))
    go_ret
    exact ⟨rfl, hb1.trans (hb2.mono hb1.size)⟩
  · have h2 : 1048576 < s.size := by omega
    clear h
    go_enter Try.func5, Try.ntmps5
    go_wp2
    go_ret
    exact ⟨rfl, Below.refl _ _⟩
end Go.Proofs.Ytlggbhakkhecmaa
