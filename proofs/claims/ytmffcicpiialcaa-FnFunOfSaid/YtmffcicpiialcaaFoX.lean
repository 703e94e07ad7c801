/- FnFunOf: the law, walked. -/
import Derived.Test.YtmffcicpiialcaaDrwF
import Derived.Test.YtmffcicpiialcaaFoP
import Derived.Test.YtmffcicpiialcaaLawJ
import Derived.Test.YtmffcicpiialcaaCountF
namespace Go.Proofs.Ytmffcicpiialcaa
open Go.RowKit

set_option maxRecDepth 100000 in
set_option maxHeartbeats 4000000 in
theorem lawFunOfP {w : World} {p : Option Addr} {n c : Nat} {bs : List Int} (hl : bs.length = n) (hn : n ≤ 9223372036854775807) (hz : ∀ z ∈ bs, 0 ≤ z ∧ z ≤ 255) (hp : ∀ g o s, p = some ⟨g, o, s⟩ → n = 0 ∨ g < w.heap.size) (hv : Vals w p (u8s bs)) (hc : n ≤ c) :
    Calls Try.prog 3 #[.slice p n c] w fun e w' => e = .returned (.bool true) ∧ Below w.heap.size w w' := by
  by_cases h : n ≤ 1048576
  · have HD := hid (drawFunOf_any hl (by omega) hz hp hv hc)
    clear hl hz hp hv
    go_enter Try.func3, Try.ntmps3
    go_wp2_with fail
    go_at_call 4
    refine HD.out.mono ?_
    rintro e w1 ⟨s, g, o, m, d, zs, rfl, hs, hzl, hm, hv1, hb1⟩
    have HB1 := hid hb1
    have HV1 := hid hv1
    have HZL := hid hzl
    have HB := hid (fun W (hk : Kept w1 W) => implFunOf_any s (by omega) zs (some ⟨g, o, none⟩) m d W hzl (by omega) (hv1.kept hk))
    have HA := hid (fun W (hk : Kept w1 W) => specFunOf_any s (by omega) zs (some ⟨g, o, none⟩) m d W hzl (by omega) (hv1.kept hk))
    have HAT := hid (fun k a W => implFunAt_any s (by omega) k a W)
    have HTC := hid (fun W => implTypeCount_any s (by omega) W)
    have HFS := hid (fun k => @fo_some s zs k)
    have HFA := hid (fun k => @fo_at s zs k)
    clear hb1 hv1 hzl
    cases hx : foX (around (readTy s) 62 62 0) zs with
    | none =>
      rw [hx] at HA HB
      have HB2 := hid (fun W hk => (show Calls Try.prog 5 #[.string s, .slice (some ⟨g, o, none⟩) m d] W fun e w' => e = .returned (.tuple #[.int .i64 0, .bool false]) ∧ Below W.heap.size W w' from HB.out W hk))
      have HA2 := hid (fun W hk => (show Calls Try.prog 6 #[.string s, .slice (some ⟨g, o, none⟩) m d] W fun e w' => e = .returned (.tuple #[.int .i64 0, .bool false]) ∧ Below W.heap.size W w' from HA.out W hk))
      clear hx HA HB
      go_wp2_with fail
      go_at_call 5
      refine (HB2.out _ (Kept.refl _)).mono ?_
      rintro e w2 ⟨rfl, hb2⟩
      have HB2' := hid hb2
      go_wp2_with fail
      go_at_call 6
      refine (HA2.out _ (Kept.of_below HB2'.out (Nat.le_refl _))).mono ?_
      rintro e w3 ⟨rfl, hb3⟩
      go_wp2_with fail
      go_ret
      exact ⟨rfl, HB1.out.trans ((hb2.trans (hb3.mono hb2.size)).mono HB1.out.size)⟩
    | some k =>
      rw [hx] at HA HB
      have HX := hid hx
      have HB2 := hid (fun W hk => (show Calls Try.prog 5 #[.string s, .slice (some ⟨g, o, none⟩) m d] W fun e w' => e = .returned (.tuple #[.int .i64 (k : Int), .bool true]) ∧ Below W.heap.size W w' from HB.out W hk))
      have HA2 := hid (fun W hk => (show Calls Try.prog 6 #[.string s, .slice (some ⟨g, o, none⟩) m d] W fun e w' => e = .returned (.tuple #[.int .i64 (k : Int), .bool true]) ∧ Below W.heap.size W w' from HA.out W hk))
      have HK1 := hid (show (k : Int) < cntO (readTy s) from by obtain ⟨_, _, h, _⟩ := HFS.out k HX.out; exact h)
      have HAT2 := hid (fun (i : Nat) (z : Int) (hi : zs[i]? = some z) W => (show Calls Try.prog 7 #[.string s, .int .i64 (k : Int), .int .i64 (i : Int)] W fun e w' => e = .returned (.tuple #[.int .i64 z, .bool true]) ∧ Below W.heap.size W w' from by
        have h1 := HFA.out k HX.out hi
        have h2 := HAT.out (k : Int) (i : Int) W
        unfold FaPost at h2
        rw [h1.1, h1.2] at h2
        exact h2))
      obtain ⟨T, hT⟩ : ∃ T, cntO (readTy s) = T := ⟨_, rfl⟩
      rw [hT] at HTC HK1
      clear hx HA HB hT HX HFS HFA HAT
      go_wp2_with fail
      go_at_call 5
      refine (HB2.out _ (Kept.refl _)).mono ?_
      rintro e w2 ⟨rfl, hb2⟩
      have HB2' := hid hb2
      clear hb2
      go_wp2_with fail
      go_at_call 6
      refine (HA2.out _ (Kept.of_below HB2'.out (Nat.le_refl _))).mono ?_
      rintro e w3 ⟨rfl, hb3⟩
      have HB3 := hid (HB2'.out.trans (hb3.mono HB2'.out.size))
      clear hb3
      go_wp2_with fail
      go_loopw [9] (fun u wr => ∃ i : Nat, i ≤ m ∧ u = .int .i64 (i : Int) ∧ Hid (Below w1.heap.size w1 wr)) (fun u _ => m - (intOf u).toNat)
      case atStart => exact ⟨0, Nat.zero_le _, rfl, HB3⟩
      case round =>
        obtain ⟨i, hi, rfl, hbel⟩ := hrel
        by_cases hlt : i < m
        · obtain ⟨z, hz⟩ : ∃ z, zs[i]? = some z := ⟨_, List.getElem?_eq_getElem (by rw [HZL.out]; exact hlt)⟩
          obtain ⟨b2, o2, hbo, hcz⟩ := HV1.out i _ (ints_get hz)
          obtain ⟨rfl, rfl⟩ : g = b2 ∧ o = o2 := by simpa using hbo
          have HC := hid (HAT2.out i z hz wr)
          have HCZ := hid (fun W (hk : Kept w1 W) => hk.cell hcz)
          have d1 : (i : Int) < (m : Int) := by omega
          clear hz hcz hbo
          go_wp2_with (go_at_call 7; refine HC.out.mono ?_; rintro e w4 ⟨rfl, hb4⟩; have HB4 := hid (hbel.out.trans (hb4.mono hbel.out.size)); have hcc := HCZ.out w4 (Kept.of_below HB4.out (Nat.le_refl _)); clear hb4)
          go_roundw
          case rel => exact ⟨i + 1, by omega, by go_num, HB4⟩
          case measure => simp [intOf]; omega
        · have hin : i = m := by omega
          subst hin
          have hk0 : (0 : Int) ≤ (k : Int) := by omega
          have hk1 := HK1.out
          go_wp2_with (go_at_call 8; refine (HTC.out _).mono ?_; rintro e w4 ⟨rfl, hb4⟩; have HB4 := hid (hbel.out.trans (hb4.mono hbel.out.size)); clear hb4)
          all_goals
            go_ret
            exact ⟨rfl, HB1.out.trans (HB4.out.mono HB1.out.size)⟩
  · have h2 : 1048576 < n := by omega
    clear h hl hz hp hv
    go_enter Try.func3, Try.ntmps3
    go_wp2
    go_ret
    exact ⟨rfl, Below.refl _ _⟩
end Go.Proofs.Ytmffcicpiialcaa
