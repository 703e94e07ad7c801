/- The model of FunOf, walked. -/
import Derived.Test.YtmffcicpiialcaaLawJ1
namespace Go.Proofs.Ytmffcicpiialcaa
open Go.RowKit

set_option maxRecDepth 100000 in
set_option maxHeartbeats 2000000 in
theorem l1Fun_any {w0 : World} {S : Nat → Prop} {t : Tree} {h : Hd} (ht : TIn w0 S t h) (x y : Ty) (cy n : Nat) (hty : t.ty = some (.fn x y)) (hcy : y.cnt = some cy) (hy2 : 2 ≤ cy) (hy5 : cy ≤ 5000) (zs : List Int) (p : Option Addr) (c : Nat) (hn : zs.length = n) (hnb : n ≤ 400000000) (hpw : cy ^ n ≤ 5000)
    (hok : ∀ z ∈ zs, 0 ≤ z ∧ z < (cy : Int)) (w : World) (hv : Vals w p (ints zs)) (hk1 : Kept w0 w) (hw : w0.heap.size ≤ w.heap.size) :
    Calls Try.prog 19 #[.agg #[.string h.a, .slice h.p h.l h.c], .slice p n c] w fun e w' => e = .returned (.int .i64 ((hor cy (zs.map Int.toNat) : Nat) : Int)) ∧ Below w.heap.size w w' := by
  obtain ⟨pa, pp, pl, pc⟩ := h
  obtain ⟨b, A, p1, p2, rfl, rfl, hc3, hcm, hA, hB, ht1, ht2, hi1, hi2⟩ := tree_two ht hty rfl
  have c4 := cell_alloc_old (hk1.cell (hA 2 (by omega))) (.cells #[.string pa, .slice (some ⟨b, 0, none⟩) 3 pc] 43)
  have c5 := cell_alloc_old (hk1.cell (hB 2 (by omega))) (.cells #[.string pa, .slice (some ⟨b, 0, none⟩) 3 pc] 43)
  have HD := hid (fun W hk hs => l1Count_any hi2 y ht2 W hk hs)
  have HV := hid (show cntV y.cnt = (cy : Int) by rw [hcy]; rfl)
  have HKW := hid (hk1.alloc hw (.cells #[.string pa, .slice (some ⟨b, 0, none⟩) 3 pc] 43))
  have HVL := hid hv
  have HN := hid hn
  have HOK := hid hok
  have HDL := hid (fun i => (Nat.lt_of_lt_of_le (hor_drop_lt (i := i) (by omega) hok) (by rw [hn]; exact hpw) : hor cy ((zs.drop i).map Int.toNat) < 5000))
  have HEND := hid (show hor cy ((zs.drop n).map Int.toNat) = 0 by rw [List.drop_of_length_le (by omega)]; rfl)
  clear ht hA hB ht1 ht2 hi1 hi2 hcy hty hk1 hv hn hok hpw
  go_enter Try.func19, Try.ntmps19
  go_wp2_with (go_at_call 17; refine (HD.out _ HKW.out (by simp; omega)).mono ?_; rintro e w1 ⟨he1, hb1⟩; rw [HV.out] at he1; subst he1)
  have HB1 : Hid (Below w.heap.size w w1) := ((Below.refl _ _).alloc (by simp) _).trans (hb1.mono (by simp))
  have HV1 := hid (HVL.out.kept (Kept.of_below HB1.out (Nat.le_refl _)))
  go_loop [6, 7] (fun v u => ∃ i H : Nat, i ≤ n ∧ u = .int .i64 ((i : Int) - 1) ∧ v = .int .i64 (H : Int) ∧ H < 5000 ∧ Hid (H = hor cy ((zs.drop i).map Int.toNat))) (fun _ u => (intOf u + 1).toNat)
  case atStart => exact ⟨n, 0, Nat.le_refl _, rfl, rfl, by omega, HEND.out.symm⟩
  case round =>
    obtain ⟨i, H, hi, rfl, rfl, hH5, hH⟩ := hrel
    by_cases hlt : 1 ≤ i
    · obtain ⟨j, rfl⟩ : ∃ j, i = j + 1 := ⟨i - 1, by omega⟩
      obtain ⟨z, hz⟩ : ∃ z, zs[j]? = some z := ⟨_, List.getElem?_eq_getElem (by rw [HN.out]; omega)⟩
      have hzz := HOK.out z (List.mem_of_getElem? hz)
      obtain ⟨zn, rfl⟩ := Int.eq_ofNat_of_zero_le hzz.1
      have hcast : ((j + 1 : Nat) : Int) - 1 = (j : Int) := by omega
      rw [hcast]
      obtain ⟨b2, o, rfl, hcz⟩ := HV1.out j _ (ints_get hz)
      have HT := hid (hor_drop (y := cy) hz)
      have HLT := hid (HDL.out j)
      have m1 : H * cy ≤ 5000 * 5000 := Nat.mul_le_mul (by omega) hy5
      obtain ⟨q1, hq1⟩ : ∃ q, H * cy = q := ⟨_, rfl⟩
      have hi1 : (H : Int) * (cy : Int) = (q1 : Int) := by rw [← hq1]; simp
      have HQ1 := hid hq1
      rw [hq1] at m1
      have hzn : zn ≤ 5000 := by omega
      clear hz hzz hq1 hcast
      go_wp2_with fail
      go_round
      case rel =>
        have e1 : q1 + zn = hor cy ((zs.drop j).map Int.toNat) := by rw [HT.out, ← hH.out, ← HQ1.out, Nat.mul_comm H cy, Nat.add_comm]
        refine ⟨j, q1 + zn, by omega, by go_num, by go_num, ?_, e1⟩
        rw [e1]; exact HLT.out
      case measure => simp [intOf]
    · have hi0 : i = 0 := by omega
      have HI0 := hid hi0
      have hneg : (i : Int) - 1 < 0 := by omega
      clear hi0 hlt
      go_wp2_with fail
      go_ret
      refine ⟨ret_int ?_, HB1.out⟩
      rw [hH.out, HI0.out, List.drop_zero]

set_option maxRecDepth 100000 in
set_option maxHeartbeats 4000000 in
theorem specFunOf_any (s : ByteArray) (hs : s.size ≤ 400000000) (zs : List Int) (p : Option Addr) (n c : Nat) (w : World) (hn : zs.length = n) (hnb : n ≤ 400000000) (hv : Vals w p (ints zs)) :
    Calls Try.prog 6 #[.string s, .slice p n c] w (FaPost (foX (around (readTy s) 62 62 0) zs) w) := by
  have HC := hid (fun W => l1Element_any s hs ⟨#[62]⟩ ⟨#[62]⟩ 62 62 (by rw [Go.ByteArray.toList_eq]) (by rw [Go.ByteArray.toList_eq]) (by decide) (by decide) 0 W)
  have HVL := hid hv
  have HN := hid hn
  clear hv hn
  rcases elem_cases s 62 62 0 with ⟨h1, h2⟩ | ⟨ty, t, xs, N, h1, h2, hty, hkc, hh, hN, hk0, hkn, hn5, hw⟩
  · have H2 := hid h2
    have HX := hid (show foX (around (readTy s) 62 62 0) zs = none by rw [h1]; rfl)
    clear h1 h2
    go_enter Try.func6, Try.ntmps6
    go_wp2_with (go_at_call 16; refine (HC.out _).mono ?_; rintro e w1 hp; rw [H2.out] at hp; obtain ⟨pa, pp, pl, pc, rfl, hpl, hb1⟩ := hp.none; clear hp)
    go_ret2
    rw [HX.out]
    exact ⟨rfl, hb1.alloc hb1.size _⟩
  · obtain ⟨x, y, rfl, hxy⟩ := fn_kids hh
    rw [hxy] at hkc
    obtain ⟨cx, cy, rfl, hcx, hcy, hx2, hx5, hy2, hy5⟩ := kc_two hkc
    have H2 := hid h2
    have HTY := hid hty
    have HXY := hid hxy
    have HVX := hid (show cntV x.cnt = (cx : Int) by rw [hcx]; rfl)
    have HVY := hid (show cntV y.cnt = (cy : Int) by rw [hcy]; rfl)
    have hpw := fn_bound hN hcx hcy
    by_cases hnx : n = cx
    · subst hnx
      have HNO := hid (fun (i : Nat) (z : Int) (h : zs[i]? = some z) (hz : ¬ (0 ≤ z ∧ z < (cy : Int))) => (show foX (around (readTy s) 62 62 0) zs = none by rw [h1]; exact foX_no h hz))
      have HYES := hid (fun (h : ∀ z ∈ zs, 0 ≤ z ∧ z < (cy : Int)) => (show foX (around (readTy s) 62 62 0) zs = some (hor cy (zs.map Int.toNat)) by rw [h1]; exact foX_yes HN.out h))
      have HO := hid (fun (w1 : World) (t : Tree) (hd : Hd) (S : Nat → Prop) (ht : TIn w1 S t hd) (hty : t.ty = some (.fn x y)) (hok : ∀ z ∈ zs, 0 ≤ z ∧ z < (cy : Int)) W hv h1 h2 => l1Fun_any ht x y cy n hty hcy hy2 hy5 zs p c HN.out hnb hpw hok W hv h1 h2)
      have hnn : ((n : Int) != (n : Int)) = false := by simp
      clear h1 h2 hty hkc hh hN hw hxy hcx hcy hpw
      go_enter Try.func6, Try.ntmps6
      go_wp2_with (first
        | (go_at_call 16; refine (HC.out _).mono ?_; rintro e w1 hp; rw [H2.out] at hp; obtain ⟨pa, pp, pl, pc, rfl, hb1, ht⟩ := hp.some; clear hp; have HT := hid ht; obtain ⟨b, A, p1, p2, rfl, rfl, hc3, hcm, hA, hB, ht1, ht2, hi1, hi2⟩ := tree_two ht HTY.out HXY.out; have HA := hid hA; have HB := hid hB; have c2 := cell_alloc_old (hA 1 (by omega)) (.cells #[.string pa, .slice (some ⟨b, 0, none⟩) 3 pc] 43); have c3 := cell_alloc_old (hB 1 (by omega)) (.cells #[.string pa, .slice (some ⟨b, 0, none⟩) 3 pc] 43); have HD := hid (fun W hk hs => l1Count_any hi1 x ht1 W hk hs); have HE := hid (fun W hk hs => l1Count_any hi2 y ht2 W hk hs); clear ht hA hB ht1 ht2 hi1 hi2)
        | (go_at_call 17; refine (HD.out _ ((Kept.refl _).alloc (Nat.le_refl _) _) (by simp)).mono ?_; rintro e w2 ⟨he2, hb2⟩; rw [HVX.out] at he2; subst he2))
      have s1 := hb1.size
      have s2 := hb2.size
      simp at s2
      have HB2 := hid hb2
      have HB1 := hid hb1
      clear hb1 hb2 c2 c3
      go_loopw [8] (fun u wr => ∃ i : Nat, i ≤ n ∧ u = .int .i64 (i : Int) ∧ Below (w1.heap.size + 1) (w1.alloc (.cells #[.string pa, .slice (some ⟨b, 0, none⟩) 3 pc] 43)) wr ∧ Hid (∀ z ∈ zs.take i, 0 ≤ z ∧ z < (cy : Int))) (fun u _ => n - (intOf u).toNat)
      case atStart => exact ⟨0, Nat.zero_le _, rfl, by simpa using HB2.out, by intro z hz; simp at hz⟩
      case round =>
        obtain ⟨i, hi, rfl, hbel, hok⟩ := hrel
        have sr := hbel.size
        simp at sr
        have k0 := cells_of_pair (block_below (heap_new w1 (.cells #[.string pa, .slice (some ⟨b, 0, none⟩) 3 pc] 43) _ rfl) hbel (by simp))
        have kw : Kept w1 wr := ((Kept.refl w1).alloc (Nat.le_refl _) _).below hbel (by simp)
        have HKW := hid kw
        have hsr : w1.heap.size ≤ wr.heap.size := by omega
        have HBE := hid hbel
        have HBW : Hid (Below w.heap.size w wr) := HB1.out.trans (((Below.refl _ _).alloc s1 _).trans (hbel.mono (by omega)))
        by_cases hlt : i < n
        · obtain ⟨z, hz⟩ : ∃ z, zs[i]? = some z := ⟨_, List.getElem?_eq_getElem (by rw [HN.out]; exact hlt)⟩
          have hvr := HVL.out.kept (Kept.of_below HBW.out (Nat.le_refl _))
          obtain ⟨b2, o, rfl, hcz⟩ := hvr i _ (ints_get hz)
          have c4 := kw.cell (HA.out 2 (by omega))
          have c5 := kw.cell (HB.out 2 (by omega))
          have C4 := hid c4
          have C5 := hid c5
          have CZ := hid hcz
          have K0 := hid (block_below (heap_new w1 (.cells #[.string pa, .slice (some ⟨b, 0, none⟩) 3 pc] 43) _ rfl) hbel (by simp))
          have wV : IntKind.i64.wrap ((cy : Int) - 1) = (cy : Int) - 1 := IntWalk.i64_in _ (by omega)
          have HI := hid (fun W => l6In_any z 0 ((cy : Int) - 1) W)
          by_cases hzz : 0 ≤ z ∧ z < (cy : Int)
          · rw [decide_eq_true (show 0 ≤ z ∧ z ≤ (cy : Int) - 1 by omega)] at HI
            have HOK := hid (ok_snoc hok.out hz hzz)
            clear hz hzz hvr kw hbel
            go_wp2_with fail
            go_region_with (first | (go_at_call 17; refine (HE.out wr.drew (show Kept w1 wr.drew from HKW.out) (show w1.heap.size ≤ wr.heap.size from hsr)).mono ?_; rintro e w4 ⟨he4, hb4⟩; rw [HVY.out] at he4; subst he4; have hb4' := Below.thenH (Below.refl _ wr).drew hb4; have l0 := lt_of_block K0.out; have kk := cells_of_pair (block_below K0.out hb4' l0); have cc := (hb4'.cell (p := ⟨b2, o + i, none⟩) (World.block_lt_of_cell? wr _ CZ.out)).trans CZ.out; have cc4 := (Kept.of_below hb4' (Nat.le_refl _)).cell C4.out; have cc5 := (Kept.of_below hb4' (Nat.le_refl _)).cell C5.out) | (go_at_call 18; refine (HI.out _).mono ?_; rintro e w5 ⟨rfl, rfl⟩))
            all_goals
              go_wp2_with fail
              go_roundw
              case rel => exact ⟨i + 1, by omega, by go_num, HBE.out.trans (hb4'.mono (by omega)), HOK.out⟩
              case measure => simp [intOf]; omega
          · rw [decide_eq_false (show ¬ (0 ≤ z ∧ z ≤ (cy : Int) - 1) by omega)] at HI
            have HX := hid (HNO.out i z hz hzz)
            clear hz hzz hvr kw hbel
            go_wp2_with fail
            go_region_with (first | (go_at_call 17; refine (HE.out wr.drew (show Kept w1 wr.drew from HKW.out) (show w1.heap.size ≤ wr.heap.size from hsr)).mono ?_; rintro e w4 ⟨he4, hb4⟩; rw [HVY.out] at he4; subst he4; have hb4' := Below.thenH (Below.refl _ wr).drew hb4; have l0 := lt_of_block K0.out; have kk := cells_of_pair (block_below K0.out hb4' l0); have cc := (hb4'.cell (p := ⟨b2, o + i, none⟩) (World.block_lt_of_cell? wr _ CZ.out)).trans CZ.out; have cc4 := (Kept.of_below hb4' (Nat.le_refl _)).cell C4.out; have cc5 := (Kept.of_below hb4' (Nat.le_refl _)).cell C5.out) | (go_at_call 18; refine (HI.out _).mono ?_; rintro e w5 ⟨rfl, rfl⟩))
            all_goals
              go_wp2_with fail
              go_ret2
              rw [HX.out]
              exact ⟨rfl, HBW.out.trans (hb4'.mono HBW.out.size)⟩
        · have hin : i = n := by omega
          have hall : ∀ z ∈ zs, 0 ≤ z ∧ z < (cy : Int) := by
            have := hok.out
            rwa [List.take_of_length_le (by rw [HN.out, hin]; exact Nat.le_refl _)] at this
          have HALL := hid hall
          have HVR := hid (HVL.out.kept (Kept.of_below HBW.out (Nat.le_refl _)))
          clear hin hall kw hbel
          go_wp2_with (go_at_call 19; refine (HO.out _ _ _ _ HT.out HTY.out HALL.out _ HVR.out HKW.out (by omega)).mono ?_; rintro e w4 ⟨rfl, hb4⟩)
          go_ret2
          rw [HYES.out HALL.out]
          exact ⟨rfl, HBW.out.trans (hb4.mono HBW.out.size)⟩
    · have HX := hid (show foX (around (readTy s) 62 62 0) zs = none by rw [h1]; exact foX_len (by rw [HN.out]; exact hnx))
      have hnn : ((n : Int) != (cx : Int)) = true := bne_iff_ne.2 (by omega)
      clear h1 h2 hty hkc hh hN hw hxy hcx hcy hpw hnx
      go_enter Try.func6, Try.ntmps6
      go_wp2_with (first
        | (go_at_call 16; refine (HC.out _).mono ?_; rintro e w1 hp; rw [H2.out] at hp; obtain ⟨pa, pp, pl, pc, rfl, hb1, ht⟩ := hp.some; clear hp; obtain ⟨b, A, p1, p2, rfl, rfl, hc3, hcm, hA, hB, ht1, ht2, hi1, hi2⟩ := tree_two ht HTY.out HXY.out; have c2 := cell_alloc_old (hA 1 (by omega)) (.cells #[.string pa, .slice (some ⟨b, 0, none⟩) 3 pc] 43); have c3 := cell_alloc_old (hB 1 (by omega)) (.cells #[.string pa, .slice (some ⟨b, 0, none⟩) 3 pc] 43); have HD := hid (fun W hk hs => l1Count_any hi1 x ht1 W hk hs); clear ht hA hB ht1 ht2 hi1 hi2)
        | (go_at_call 17; refine (HD.out _ ((Kept.refl _).alloc (Nat.le_refl _) _) (by simp)).mono ?_; rintro e w2 ⟨he2, hb2⟩; rw [HVX.out] at he2; subst he2))
      go_ret2
      rw [HX.out]
      have s1 := hb1.size
      exact ⟨rfl, hb1.trans (((Below.refl _ _).alloc s1 _).trans (hb2.mono (by simp; omega)))⟩
end Go.Proofs.Ytmffcicpiialcaa
