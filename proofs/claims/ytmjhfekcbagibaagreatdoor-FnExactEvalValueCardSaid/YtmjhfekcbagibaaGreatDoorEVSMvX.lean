/- Merged: MvX. -/
import Derived.Test.YtmjhfekcbagibaaGreatDoorEV38
import Derived.Test.YtmjhfekcbagibaaGreatDoorEVSMvI1
import Derived.Test.YtmjhfekcbagibaaGreatDoorEVSMvI2
import Derived.Test.YtmjhfekcbagibaaGreatDoorEVSMvI3
import Derived.Test.YtmjhfekcbagibaaGreatDoorEVSMvI4
namespace Go.Proofs.YtmjhfekcbagibaaGreatDoor
open Go.RowKit

theorem okBF_in (b f : Int) : okBF b f = (inB b 0 1 && inB f 0 5000) := by
  unfold okBF inB
  rw [Bool.eq_iff_iff]
  simp
  omega
/-- EVALVALUE, BY THE MODEL. -/
theorem specEvalValue_any (s : ByteArray) (hs : s.size ≤ 400000000) (b f : Int) (w : World) : Calls Tryz.prog 4 #[.string s, .int .i64 b, .int .i64 f] w (VqPost (evX s b f) w) := by
  cases hr : readSx s with
  | none =>
    rw [show evX s b f = none by rw [evX, stE, hr]]
    exact specEval_none s b f w (l7Start_no1 s hs w b f hr)
  | some m =>
    cases ht : m.typ [] with
    | none =>
      rw [show evX s b f = none by rw [evX, stE, hr]; simp [ht]]
      exact specEval_none s b f w (l7Start_no2 s hs w b f hr (by rw [stE_some hr, ht]; rfl))
    | some t =>
      have hx : stE s = some (m, t) := by rw [stE, hr]; simp [ht]
      have hcl : ((clT s).toList == []) = false := by rw [stE_some hr, ht]; exact txt7_none (some t)
      cases i0 : inB b 0 1 with
      | false =>
        rw [show evX s b f = none by rw [evX, hx]; simp [okBF_in, i0]]
        exact specEval_none s b f w (l7Start_no3 s hs w b f hr hcl i0)
      | true =>
        cases i1 : inB f 0 5000 with
        | false =>
          rw [show evX s b f = none by rw [evX, hx]; simp [okBF_in, i0, i1]]
          exact specEval_none s b f w (l7Start_no4 s hs w b f hr hcl i0 i1)
        | true =>
          have ho : okBF b f = true := by rw [okBF_in, i0, i1]; rfl
          obtain ⟨h0, h1, h2⟩ := okBF_t ho
          obtain ⟨n, hn, rfl⟩ : ∃ n : Nat, n ≤ 1 ∧ b = (n : Int) := by
            rcases h0 with rfl | rfl
            · exact ⟨0, by omega, rfl⟩
            · exact ⟨1, by omega, rfl⟩
          obtain ⟨k, rfl⟩ : ∃ k : Nat, f = (k : Int) := ⟨f.toNat, by omega⟩
          have hk : k ≤ 5000 := by omega
          obtain ⟨_, _, hxs⟩ := readSx_inv hr
          have han := sx_an hxs
          have hbw := sx_bw hxs
          have hwf := sx_wf hxs
          have hst := l7Start_ok s hs w (x := (m, t)) hx (n := n) (f := k) hn hk
          rw [show evX s (n : Int) (k : Int) = evO (m.ev (k + 1) [] ⟨k, n, false⟩) by rw [evX, hx]; simp [ho]]
          have hty := ev_ty (k + 1) m [] [] t ⟨k, n, false⟩ hn .nil han hbw ht
          have hfl := ev_failed (k + 1) m [] ⟨k, n, false⟩ rfl
          cases hR : m.ev (k + 1) [] ⟨k, n, false⟩ with
          | mk o r =>
            rw [hR] at hty hfl
            cases o with
            | none => exact specEval_none2 s w (x := (m, t)) hR hn hk han hbw hwf ht hst
            | some v => exact specEval_some s w (x := (m, t)) hR (hty.2 v rfl) (hfl v rfl) hn hk han hbw hwf ht hst
theorem evV_shape (o : Option (ByteArray × Nat)) : ∃ X n D, evV o = .tuple #[.string X, .int .i64 n, .bool D] := by
  cases o with
  | none => exact ⟨_, _, _, rfl⟩
  | some x => exact ⟨_, _, _, rfl⟩

set_option maxHeartbeats 1000000 in
theorem lawEvalValue (s : ByteArray) (hs : s.size ≤ 9223372036854775807) (b f : Int) (w : World) : Calls Tryz.prog 3 #[.string s, .int .i64 b, .int .i64 f] w fun e w' => e = .returned (.bool true) ∧ Below w.heap.size w w' := by
  by_cases h : s.size ≤ 1048576
  · have HA := hid (fun W => specEvalValue_any s (by omega) b f W)
    have HB := hid (fun W => implEvalValue_any s (by omega) b f W)
    obtain ⟨X, n, D, hX⟩ := evV_shape (evX s b f)
    have HP := hid (fun W e W' (h : VqPost (evX s b f) W e W') => (show e = .returned (.tuple #[.string X, .int .i64 n, .bool D]) ∧ Below W.heap.size W W' from by rw [← hX]; exact h))
    have hq : (!X.toList == X.toList) = false := by simp
    have hq1 : (n != n) = false := by simp
    have hq2 : (D != D) = false := by simp
    clear hX
    go_enter Tryz.func3, Tryz.ntmps3
    go_wp2_with (first | (go_at_call 4; refine (HA.out _).mono ?_; rintro e w1 hp; obtain ⟨rfl, hb1⟩ := HP.out _ _ _ hp; clear hp) | (go_at_call 5; refine (HB.out _).mono ?_; rintro e w2 hp; obtain ⟨rfl, hb2⟩ := HP.out _ _ _ hp; clear hp))
    go_ret
    exact ⟨rfl, hb1.trans (hb2.mono hb1.size)⟩
  · have h2 : 1048576 < s.size := by omega
    clear h
    go_enter Tryz.func3, Tryz.ntmps3
    go_wp2
    go_ret
    exact ⟨rfl, Below.refl _ _⟩
end Go.Proofs.YtmjhfekcbagibaaGreatDoor
