/- FnOutcome: the law, walked. -/
import Derived.Test.YtknjpdbdchnpeaaFODrwYOutcome
import Derived.Test.YtknjpdbdchnpeaaFM18
import Derived.Test.YtknjpdbdchnpeaaFMSKidsI
import Derived.Test.YtknjpdbdchnpeaaFM15
namespace Go.Proofs.Ytknjpdbdchnpeaa
open Go.RowKit

set_option maxRecDepth 100000 in
set_option maxHeartbeats 4000000 in
theorem lawOutcomeD {w : World} {p : Option Addr} {n c : Nat} {bs : List Int} (hl : bs.length = n) (hn : n ≤ 9223372036854775807) (hz : ∀ z ∈ bs, 0 ≤ z ∧ z ≤ 255) (hp : ∀ g o s, p = some ⟨g, o, s⟩ → n = 0 ∨ g < w.heap.size) (hv : Vals w p (u8s bs)) (hc : n ≤ c) :
    Calls Try.prog 9 #[.slice p n c] w fun e w' => e = .returned (.bool true) ∧ Below w.heap.size w w' := by
  by_cases h : n ≤ 1048576
  · have HD := hid (drawOutcome_any hl (by omega) hz hp hv hc)
    clear hl hz hp hv
    go_enter Try.func9, Try.ntmps9
    go_wp2_with fail
    go_at_call 32
    refine HD.out.mono ?_
    rintro e w1 ⟨s, k, st, rfl, hs, hb1⟩
    have HB1 := hid hb1
    clear hb1
    have HB := hid (fun st W => implReturnOutcome_any s (by omega) k st W)
    have HA := hid (fun st W => specReturnOutcome_any s (by omega) k st W)
    have hno : ∀ {X : Option (Int × Nat)}, roX (around (readTy s) 102 102 k) k st = X → X = none → Calls Try.prog 9 #[.slice p n c] w (fun e w' => e = .returned (.bool true) ∧ Below w.heap.size w w') ∨ True := fun _ _ => Or.inr trivial
    clear hno
    by_cases hx : roX (around (readTy s) 102 102 k) k st = none
    · have HB2 := hid (fun W => (show Calls Try.prog 33 #[.string s, .int .i64 k, .int .i64 st] W fun e w' => e = .returned (.tuple #[.bool false, .int .i64 0, .int .i64 0, .bool false]) ∧ Below W.heap.size W w' from by have h1 := HB.out st W; rw [hx] at h1; exact h1))
      have HA2 := hid (fun W => (show Calls Try.prog 34 #[.string s, .int .i64 k, .int .i64 st] W fun e w' => e = .returned (.tuple #[.bool false, .int .i64 0, .int .i64 0, .bool false]) ∧ Below W.heap.size W w' from by have h1 := HA.out st W; rw [hx] at h1; exact h1))
      clear hx HA HB
      go_wp2_with fail
      go_at_call 33
      refine (HB2.out _).mono ?_
      rintro e w2 ⟨rfl, hb2⟩
      have HC2 := hid (HB1.out.trans (hb2.mono HB1.out.size))
      clear hb2
      go_wp2_with fail
      go_at_call 34
      refine (HA2.out _).mono ?_
      rintro e w3 ⟨rfl, hb3⟩
      have HB3 := hid (HC2.out.trans (hb3.mono HC2.out.size))
      clear hb3
      go_wp2_with fail
      go_ret
      exact ⟨rfl, HB3.out⟩
    · cases har : around (readTy s) 102 102 k with
      | none => rw [har] at hx; exact absurd rfl hx
      | some xs =>
        obtain ⟨x, c, o1, o0, hr, hcx, hc2, hc5, hk0, hk5, hX1, hX0, o10, o11, o00, o01, hsum, m0, m5⟩ := oc_facts har
        obtain ⟨x1, y1, z1, hT1, hF1⟩ := oc_fact hc2 hc5 o10 o11
        obtain ⟨x0, y0, z0, hT0, hF0⟩ := oc_fact hc2 hc5 o00 o01
        rw [har] at HA HB hx
        have HR1 := hid (fun W => (show Calls Try.prog 33 #[.string s, .int .i64 k, .int .i64 1] W fun e w' => e = .returned (.tuple #[.bool x1, .int .i64 y1, .int .i64 z1, .bool true]) ∧ Below W.heap.size W w' from by have h1 := HB.out 1 W; unfold RoPost at h1; rw [hX1, hT1] at h1; exact h1))
        have HR0 := hid (fun W => (show Calls Try.prog 33 #[.string s, .int .i64 k, .int .i64 0] W fun e w' => e = .returned (.tuple #[.bool x0, .int .i64 y0, .int .i64 z0, .bool true]) ∧ Below W.heap.size W w' from by have h1 := HB.out 0 W; unfold RoPost at h1; rw [hX0, hT0] at h1; exact h1))
        have hst : st = 0 ∨ st = 1 := by
          by_cases h : st = 0 ∨ st = 1
          · exact h
          · obtain ⟨ty, n, _, hh, hkc, _, _, _, _⟩ := ar_some har
            obtain ⟨y, rfl, hxy⟩ := one_kid hh
            rw [hxy] at hkc
            obtain ⟨c2, rfl, _⟩ := kc_one hkc
            exact absurd (by rw [roX, if_neg h]) hx
        obtain ⟨xs0, ys0, zs0, oS, hRI, hRS, hFS⟩ : ∃ (xS : Bool) (yS zS oS : Int), (∀ W, Calls Try.prog 33 #[.string s, .int .i64 k, .int .i64 st] W fun e w' => e = .returned (.tuple #[.bool xS, .int .i64 yS, .int .i64 zS, .bool true]) ∧ Below W.heap.size W w') ∧ (∀ W, Calls Try.prog 34 #[.string s, .int .i64 k, .int .i64 st] W fun e w' => e = .returned (.tuple #[.bool xS, .int .i64 yS, .int .i64 zS, .bool true]) ∧ Below W.heap.size W w') ∧ OcFact c oS xS yS zS := by
          rcases hst with rfl | rfl
          · exact ⟨x0, y0, z0, o0, HR0.out, fun W => by have h1 := HA.out 0 W; unfold RoPost at h1; rw [hX0, hT0] at h1; exact h1, hF0⟩
          · exact ⟨x1, y1, z1, o1, HR1.out, fun W => by have h1 := HA.out 1 W; unfold RoPost at h1; rw [hX1, hT1] at h1; exact h1, hF1⟩
        have HRI := hid hRI
        have HRS := hid hRS
        have HKD := hid (fun W => ((implTypeKids_any s (by omega) W).mono fun e w' h => lw_kids_post h))
        rw [hr] at HKD
        have HKD2 := hid (fun W => (show Calls Try.prog 15 #[.string s] W (KdPost [x] 1 true W) from HKD.out W))
        have HK0 := hid (fun W => (show Calls Try.prog 26 #[.string x.text] W fun e w' => e = .returned (.int .i64 (c : Int)) ∧ Below W.heap.size W w' from by
          have h0 : (Ty.ret x).kids[0]? = some x := rfl
          have h1 := implTypeCount_any x.text (by have := lw_size hr h0; omega) W
          rw [lw_kid_read hr h0] at h1
          have h2 : cntO (some x) = (c : Int) := by show cntV x.cnt = _; rw [hcx]; rfl
          rw [h2] at h1; exact h1))
        clear hx HA HB hr hcx hX1 hX0 hT1 hT0 hRI hRS HKD har hst
        have hfS : (xs0 != xs0) = false := by simp
        have hfS2 : (xs0 == xs0) = true := by simp
        go_wp2_with fail
        go_at_call 33
        refine (HRI.out _).mono ?_
        rintro e w2 ⟨rfl, hb2⟩
        have HB2 := hid (HB1.out.trans (hb2.mono HB1.out.size))
        clear hb2
        go_wp2_with fail
        go_at_call 34
        refine (HRS.out _).mono ?_
        rintro e w3 ⟨rfl, hb3⟩
        have HB3 := hid (HB2.out.trans (hb3.mono HB2.out.size))
        clear hb3
        go_wp2_with fail
        go_at_call 15
        refine (HKD2.out _).mono ?_
        rintro e w4 ⟨q, d, rfl, hv4, hu4, hb4⟩
        have HB4 := hid (HB3.out.trans (hb4.mono HB3.out.size))
        obtain ⟨b2, o2, hbo, hc0⟩ := hv4 0 (.string x.text) rfl
        subst hbo
        have hc0' : w4.cell? ⟨b2, o2, none⟩ = some (.string x.text) := hc0
        clear hv4 hu4 hc0
        clear hb4
        go_wp2_with fail
        go_at_call 26
        refine (HK0.out _).mono ?_
        rintro e w5 ⟨rfl, hb5⟩
        have HB5 := hid (HB4.out.trans (hb5.mono HB4.out.size))
        clear hb5
        go_wp2_with fail
        go_loopw [17, 18] (fun t u wr => Hid (Below w5.heap.size w5 wr) ∧ ((u = .int .i64 1 ∧ t = .int .i64 0) ∨ (u = .int .i64 0 ∧ t = .int .i64 o1) ∨ (u = .int .i64 (-1) ∧ t = .int .i64 k))) (fun _ u _ => (intOf u + 1).toNat)
        case atStart => exact ⟨hid (Below.refl _ _), Or.inl ⟨rfl, rfl⟩⟩
        case round =>
          obtain ⟨hbel, hcs⟩ := hrel
          rcases hcs with ⟨rfl, rfl⟩ | ⟨rfl, rfl⟩ | ⟨rfl, rfl⟩
          · rcases hF1 with ⟨rfl, rfl, rfl, hz⟩ | ⟨rfl, y0, y1, z0, z1, hyz, m0, m1⟩
            · go_wp2_with (go_at_call 33; refine (HR1.out wr).mono ?_; rintro e w55 ⟨rfl, hb55⟩; have HB55 := hid (hbel.out.trans (hb55.mono hbel.out.size)); clear hb55)
              go_roundw
              case rel => exact ⟨HB55, Or.inr (Or.inl ⟨rfl, by go_num⟩)⟩
              case measure => simp [intOf]
            · go_wp2_with (go_at_call 33; refine (HR1.out wr).mono ?_; rintro e w55 ⟨rfl, hb55⟩; have HB55 := hid (hbel.out.trans (hb55.mono hbel.out.size)); clear hb55)
              go_roundw
              case rel => exact ⟨HB55, Or.inr (Or.inl ⟨rfl, by go_num⟩)⟩
              case measure => simp [intOf]
          · rcases hF0 with ⟨rfl, rfl, rfl, hz⟩ | ⟨rfl, y0, y1, z0, z1, hyz, m0, m1⟩
            · go_wp2_with (go_at_call 33; refine (HR0.out wr).mono ?_; rintro e w55 ⟨rfl, hb55⟩; have HB55 := hid (hbel.out.trans (hb55.mono hbel.out.size)); clear hb55)
              go_roundw
              case rel => exact ⟨HB55, Or.inr (Or.inr ⟨rfl, by go_num⟩)⟩
              case measure => simp [intOf]
            · go_wp2_with (go_at_call 33; refine (HR0.out wr).mono ?_; rintro e w55 ⟨rfl, hb55⟩; have HB55 := hid (hbel.out.trans (hb55.mono hbel.out.size)); clear hb55)
              go_roundw
              case rel => exact ⟨HB55, Or.inr (Or.inr ⟨rfl, by go_num⟩)⟩
              case measure => simp [intOf]
          · have HBe := hid (HB5.out.trans (hbel.out.mono HB5.out.size))
            rcases hFS with ⟨rfl, rfl, rfl, hz⟩ | ⟨rfl, y0, y1, z0, z1, hyz, m0, m1⟩
            all_goals
              go_wp2_with fail
              go_ret
              exact ⟨rfl, HBe.out⟩

  · have h2 : 1048576 < n := by omega
    clear h hl hz hp hv
    go_enter Try.func9, Try.ntmps9
    go_wp2
    go_ret
    exact ⟨rfl, Below.refl _ _⟩
end Go.Proofs.Ytknjpdbdchnpeaa
