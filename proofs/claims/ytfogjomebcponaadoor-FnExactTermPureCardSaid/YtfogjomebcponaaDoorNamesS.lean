/- Names, by the model. -/
import Derived.Test.YtfogjomebcponaaDoorNames
import Derived.Test.YtfogjomebcponaaDoorSpecA
namespace Go.Proofs.YtfogjomebcponaaDoor
open Go.RowKit

theorem l6In_any (n lo hi : Int) (w : World) : Calls Tryd.prog 54 #[.int .i64 n, .int .i64 lo, .int .i64 hi] w fun e w' => e = .returned (.bool (decide (lo ≤ n ∧ n ≤ hi))) ∧ w = w' := by
  by_cases h0 : lo ≤ n
  · by_cases h1 : n ≤ hi
    · have e : decide (lo ≤ n ∧ n ≤ hi) = true := decide_eq_true ⟨h0, h1⟩
      rw [e]
      go_enter Tryd.func54, Tryd.ntmps54
      go_wp2
      go_ret
      exact ⟨rfl, rfl⟩
    · have e : decide (lo ≤ n ∧ n ≤ hi) = false := decide_eq_false (fun h => h1 h.2)
      rw [e]
      go_enter Tryd.func54, Tryd.ntmps54
      go_wp2
      go_ret
      exact ⟨rfl, rfl⟩
  · have e : decide (lo ≤ n ∧ n ≤ hi) = false := decide_eq_false (fun h => h0 h.1)
    rw [e]
    go_enter Tryd.func54, Tryd.ntmps54
    go_wp2
    go_ret
    exact ⟨rfl, rfl⟩
set_option maxRecDepth 100000 in
set_option maxHeartbeats 1000000 in
theorem l2Name_any (s : ByteArray) (hs : s.size ≤ 400000000) (w : World) : Calls Tryd.prog 42 #[.string s] w fun e w' => e = .returned (.bool (nameB s.toList)) ∧ w = w' := by
  have hs' : s.size ≤ 9223372036854775807 := by omega
  by_cases h0 : 0 < s.size
  · by_cases h4 : s.size ≤ 4
    · have HI := hid (fun W => by have := l6In_any (s.size : Int) 1 4 W; rw [decide_eq_true (by omega)] at this; exact this)
      by_cases ha : 97 ≤ s[0].toNat ∧ s[0].toNat ≤ 122
      · have HN := hid (show nameB s.toList = (s.toList.drop 1).all digB by rw [nameB_cons s h0, decide_eq_true ⟨ha.1, ha.2, h4⟩, Bool.true_and])
        obtain ⟨ha1, ha2⟩ := ha
        go_enter Tryd.func42, Tryd.ntmps42
        go_wp2_with (go_at_call 54; refine (HI.out _).mono ?_; rintro e w1 ⟨rfl, rfl⟩)
        go_loop [3] (fun v => ∃ i : Nat, 1 ≤ i ∧ i ≤ s.size ∧ v = .int .i64 (i : Int) ∧ Hid (nameB s.toList = (s.toList.drop i).all digB)) (fun v => s.size - (intOf v).toNat)
        case atStart => exact ⟨1, by omega, by omega, rfl, HN⟩
        case round =>
          obtain ⟨i, hi1, hi2, rfl, hn⟩ := hrel
          by_cases hlt : i < s.size
          · have HA := hid (all_drop s i hlt)
            by_cases hd : 48 ≤ s[i].toNat ∧ s[i].toNat ≤ 57
            · have HD := hid (show digB s[i] = true from decide_eq_true hd)
              obtain ⟨hd1, hd2⟩ := hd
              go_wp2_with fail
              go_round
              case rel => exact ⟨i + 1, by omega, by omega, by go_num, by show _ = _; rw [hn.out, HA.out, HD.out, Bool.true_and]⟩
              case measure => simp [intOf]; omega
            · have HD := hid (show digB s[i] = false from decide_eq_false hd)
              have HR := hid (show nameB s.toList = false by rw [hn.out, HA.out, HD.out, Bool.false_and])
              by_cases hd1 : s[i].toNat < 48
              · clear hd
                go_wp2_with fail
                go_ret
                exact ⟨ret_bool HR.out.symm, rfl⟩
              · have hd2 : 57 < s[i].toNat := by omega
                have hd3 : 48 ≤ s[i].toNat := by omega
                clear hd hd1
                go_wp2_with fail
                go_ret
                exact ⟨ret_bool HR.out.symm, rfl⟩
          · have hie : i = s.size := by omega
            have HR := hid (show nameB s.toList = true by rw [hn.out, hie, all_end])
            clear hie
            go_wp2_with fail
            go_ret
            exact ⟨ret_bool HR.out.symm, rfl⟩
      · have HN := hid (show nameB s.toList = false by rw [nameB_cons s h0, decide_eq_false (fun h => ha ⟨h.1, h.2.1⟩), Bool.false_and])
        by_cases ha1 : s[0].toNat < 97
        · clear ha
          go_enter Tryd.func42, Tryd.ntmps42
          go_wp2_with (go_at_call 54; refine (HI.out _).mono ?_; rintro e w1 ⟨rfl, rfl⟩)
          go_ret
          exact ⟨ret_bool HN.out.symm, rfl⟩
        · have ha2 : 122 < s[0].toNat := by omega
          have ha3 : 97 ≤ s[0].toNat := by omega
          clear ha ha1
          go_enter Tryd.func42, Tryd.ntmps42
          go_wp2_with (go_at_call 54; refine (HI.out _).mono ?_; rintro e w1 ⟨rfl, rfl⟩)
          go_ret
          exact ⟨ret_bool HN.out.symm, rfl⟩
    · have HN := hid (show nameB s.toList = false by rw [nameB_cons s h0, decide_eq_false (fun h => h4 h.2.2), Bool.false_and])
      have HI := hid (fun W => by have := l6In_any (s.size : Int) 1 4 W; rw [decide_eq_false (by omega)] at this; exact this)
      go_enter Tryd.func42, Tryd.ntmps42
      go_wp2_with (go_at_call 54; refine (HI.out _).mono ?_; rintro e w1 ⟨rfl, rfl⟩)
      go_ret
      exact ⟨ret_bool HN.out.symm, rfl⟩
  · have HN := hid (nameB_nil s (by omega))
    have HI := hid (fun W => by have := l6In_any (s.size : Int) 1 4 W; rw [decide_eq_false (by omega)] at this; exact this)
    go_enter Tryd.func42, Tryd.ntmps42
    go_wp2_with (go_at_call 54; refine (HI.out _).mono ?_; rintro e w1 ⟨rfl, rfl⟩)
    go_ret
    exact ⟨ret_bool HN.out.symm, rfl⟩

end Go.Proofs.YtfogjomebcponaaDoor
