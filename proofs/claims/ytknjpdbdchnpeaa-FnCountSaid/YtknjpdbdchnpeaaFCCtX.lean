/- FnCount: the law, walked. -/
import Derived.Test.YtknjpdbdchnpeaaFCDrwYCount
import Derived.Test.YtknjpdbdchnpeaaFCLwQ
import Derived.Test.YtknjpdbdchnpeaaFMSKidsI
import Derived.Test.YtknjpdbdchnpeaaFM15
namespace Go.Proofs.Ytknjpdbdchnpeaa
open Go.RowKit

set_option maxRecDepth 100000 in
set_option maxHeartbeats 4000000 in
theorem lawCountD {w : World} {p : Option Addr} {n c : Nat} {bs : List Int} (hl : bs.length = n) (hn : n ≤ 9223372036854775807) (hz : ∀ z ∈ bs, 0 ≤ z ∧ z ≤ 255) (hp : ∀ g o s, p = some ⟨g, o, s⟩ → n = 0 ∨ g < w.heap.size) (hv : Vals w p (u8s bs)) (hc : n ≤ c) :
    Calls Try.prog 7 #[.slice p n c] w fun e w' => e = .returned (.bool true) ∧ Below w.heap.size w w' := by
  by_cases h : n ≤ 1048576
  · have HD := hid (drawTypeCount_any hl (by omega) hz hp hv hc)
    clear hl hz hp hv
    go_enter Try.func7, Try.ntmps7
    go_wp2_with fail
    go_at_call 27
    refine HD.out.mono ?_
    rintro e w1 ⟨s, rfl, hs, hb1⟩
    have HB1 := hid hb1
    clear hb1
    have HB := hid (fun W => implTypeCount_any s (by omega) W)
    have HA := hid (fun W => specTypeCount_any s (by omega) W)
    have hlo := cntO_lo (readTy s)
    obtain ⟨K, hK⟩ : ∃ K, cntO (readTy s) = K := ⟨_, rfl⟩
    rw [hK] at HA HB hlo
    have hq : (K != K) = false := by simp
    have hq2 : (K == K) = true := by simp
    rcases hlo with rfl | ⟨ty, N, hx, hN, rfl, hN2, hN5⟩
    · clear hK
      go_wp2_with fail
      go_at_call 26
      refine (HB.out _).mono ?_
      rintro e w2 ⟨rfl, hb2⟩
      have HB2 := hid (HB1.out.trans (hb2.mono HB1.out.size))
      clear hb2
      go_wp2_with fail
      go_at_call 28
      refine (HA.out _).mono ?_
      rintro e w3 ⟨rfl, hb3⟩
      have HB3 := hid (HB2.out.trans (hb3.mono HB2.out.size))
      clear hb3
      go_wp2_with fail
      go_ret
      exact ⟨rfl, HB3.out⟩
    · have HKI := hid (fun (i : Nat) (k : Ty) (h : ty.kids[i]? = some k) => (show ∃ m : Nat, 2 ≤ m ∧ m ≤ 5000 ∧ ∀ W, Calls Try.prog 26 #[.string k.text] W fun e w' => e = .returned (.int .i64 (m : Int)) ∧ Below W.heap.size W w' from by
        obtain ⟨m, hm, h2, h5⟩ := lw_cnt hN h
        refine ⟨m, h2, h5, fun W => ?_⟩
        have h1 := implTypeCount_any k.text (by have := lw_size hx h; omega) W
        rw [lw_kid_read hx h] at h1
        have h2 : cntO (some k) = (m : Int) := by show cntV k.cnt = _; rw [hm]; rfl
        rw [h2] at h1; exact h1))
      have HKD := hid (fun W => ((implTypeKids_any s (by omega) W).mono fun e w' h => lw_kids_post h))
      have HTH := hid (fun W => implTypeThunk_any s (by omega) W)
      have hth : (thunkR s = .tuple #[.string (thunkS s), .bool true] ∧ ∀ W, Calls Try.prog 26 #[.string (thunkS s)] W fun e w' => e = .returned (.int .i64 (N : Int)) ∧ Below W.heap.size W w') ∨ thunkR s = .tuple #[.string ByteArray.empty, .bool false] := by
        rcases lw_thunkR s with ⟨c, h1, h2, h3, h4, h5⟩ | h
        · left
          refine ⟨h5, fun W => ?_⟩
          have h6 := implTypeCount_any (thunkS s) (by rw [thunkS_size]; omega) W
          rw [h3] at h6
          rw [hx] at h1; simp at h1; subst h1
          have h7 : cntO (some (Ty.thunk ty)) = (N : Int) := by show cntV (Ty.thunk ty).cnt = _; rw [Ty.cnt, hN]; rfl
          rw [h7] at h6; exact h6
        · right; exact h
      rw [hx] at HKD
      simp only [kidsO, Option.isSome] at HKD
      have hk2 := lw_kids2 ty
      obtain ⟨L, hL⟩ : ∃ L, ty.kids = L := ⟨_, rfl⟩
      obtain ⟨m, hm⟩ : ∃ m, L.length = m := ⟨_, rfl⟩
      have HM := hid hm
      rw [hL] at HKD HKI hk2
      rw [hm] at HKD hk2
      clear hx hK hL hm hN
      go_wp2_with fail
      go_at_call 26
      refine (HB.out _).mono ?_
      rintro e w2 ⟨rfl, hb2⟩
      have HB2 := hid (HB1.out.trans (hb2.mono HB1.out.size))
      clear hb2
      go_wp2_with fail
      go_at_call 28
      refine (HA.out _).mono ?_
      rintro e w3 ⟨rfl, hb3⟩
      have HB3 := hid (HB2.out.trans (hb3.mono HB2.out.size))
      clear hb3
      go_wp2_with fail
      go_at_call 15
      refine (HKD.out _).mono ?_
      rintro e w4 ⟨q, d, rfl, hv4, hu4, hb4⟩
      have HB4 := hid (HB3.out.trans (hb4.mono HB3.out.size))
      have HV4 := hid hv4
      have HU4 := hid hu4
      clear hv4 hu4
      clear hb4
      go_wp2_with fail
      go_loopw [8] (fun u wr => ∃ i : Nat, i ≤ m ∧ u = .int .i64 (i : Int) ∧ Hid (Below w4.heap.size w4 wr)) (fun u _ => m - (intOf u).toNat)
      case atStart => exact ⟨0, Nat.zero_le _, rfl, hid (Below.refl _ _)⟩
      case round =>
        obtain ⟨i, hi, rfl, hbel⟩ := hrel
        by_cases hlt : i < m
        · obtain ⟨k, hk⟩ : ∃ k, L[i]? = some k := ⟨_, List.getElem?_eq_getElem (by rw [HM.out]; exact hlt)⟩
          obtain ⟨b2, o2, hbo, hcz⟩ := HV4.out i _ (lw_get hk)
          subst hbo
          obtain ⟨mk, mk2, mk5, hmk⟩ := HKI.out i k hk
          have HC := hid hmk
          have hcc := (hbel.out.cell (p := ⟨b2, o2 + i, none⟩) (HU4.out b2 o2 rfl)).trans hcz
          have d1 : (i : Int) < (m : Int) := by omega
          clear hk hcz
          go_wp2_with (go_at_call 26; refine (HC.out wr).mono ?_; rintro e w55 ⟨rfl, hb55⟩; have HB55 := hid (hbel.out.trans (hb55.mono hbel.out.size)); clear hb55)
          go_roundw
          case rel => exact ⟨i + 1, by omega, by go_num, HB55⟩
          case measure => simp [intOf]; omega
        · have hin : i = m := by omega
          subst hin
          have HBe := hid (HB4.out.trans (hbel.out.mono HB4.out.size))
          rcases hth with ⟨ht, hco⟩ | ht
          · have HCO := hid hco
            rw [ht] at HTH
            clear hco
            go_wp2_with (first
              | (go_at_call 26; have _ := HB7; refine (HCO.out _).mono ?_; rintro e w8 ⟨rfl, hb8⟩; have HB8 := hid (HB7.out.trans (hb8.mono HB7.out.size)); clear hb8)
              | (go_at_call 17; refine (HTH.out _).mono ?_; rintro e w7 ⟨rfl, hb7⟩; have HB7 := hid (HBe.out.trans (hb7.mono HBe.out.size)); clear hb7))
            go_ret
            exact ⟨rfl, HB8.out⟩
          · rw [ht] at HTH
            go_wp2_with (go_at_call 17; refine (HTH.out _).mono ?_; rintro e w7 ⟨rfl, hb7⟩; have HB7 := hid (HBe.out.trans (hb7.mono HBe.out.size)); clear hb7)
            go_ret
            exact ⟨rfl, HB7.out⟩

  · have h2 : 1048576 < n := by omega
    clear h hl hz hp hv
    go_enter Try.func7, Try.ntmps7
    go_wp2
    go_ret
    exact ⟨rfl, Below.refl _ _⟩
end Go.Proofs.Ytknjpdbdchnpeaa
