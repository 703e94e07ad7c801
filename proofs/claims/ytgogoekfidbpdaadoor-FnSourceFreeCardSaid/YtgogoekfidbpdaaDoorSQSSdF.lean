/- Merged: SdF. -/
import Derived.Test.YtgogoekfidbpdaaDoorSQSSdE
import Derived.Test.YtgogoekfidbpdaaDoorSQ29
namespace Go.Proofs.YtgogoekfidbpdaaDoor
open Go.RowKit

theorem mE_ge : ∀ d, 1000 ≤ mE d
  | 0 => Nat.le_refl _
  | d + 1 => by have := mE_ge d; rw [mE]; omega
theorem mE_le (d : Nat) (hd : d ≤ 5) : mE d ≤ 100000000 := by
  have : d = 0 ∨ d = 1 ∨ d = 2 ∨ d = 3 ∨ d = 4 ∨ d = 5 := by omega
  rcases this with rfl | rfl | rfl | rfl | rfl | rfl <;> decide
theorem cases10 {x : Int} (h0 : 0 ≤ x) (h1 : x < 10) : x = 0 ∨ x = 1 ∨ x = 2 ∨ x = 3 ∨ x = 4 ∨ x = 5 ∨ x = 6 ∨ x = 7 ∨ x = 8 ∨ x = 9 := by omega
def zbL : List ByteArray := [⟨#[48]⟩, ⟨#[49]⟩]
theorem zbL_small : ∀ s ∈ zbL, s.size ≤ 1 := by intro s hs; simp only [zbL, List.mem_cons, List.mem_nil_iff, or_false] at hs; rcases hs with rfl | rfl <;> decide
theorem zbL_lit {w : World} {g : Nat} (h : w.heap.size = g) : SV (w.alloc (.cells #[.string ⟨#[48]⟩, .string ⟨#[49]⟩] 9)) (some ⟨g, 0, none⟩) 2 2 zbL := by subst h; exact sv_lit w zbL 2 2 9 rfl
def lmL : List ByteArray := [⟨#[120]⟩, ⟨#[121]⟩, ⟨#[118, 48]⟩, ⟨#[97]⟩]
theorem lmL_small : ∀ s ∈ lmL, s.size ≤ 2 := by intro s hs; simp only [lmL, List.mem_cons, List.mem_nil_iff, or_false] at hs; rcases hs with rfl | rfl | rfl | rfl <;> decide
theorem lmL_lit {w : World} {g : Nat} (h : w.heap.size = g) : SV (w.alloc (.cells #[.string ⟨#[120]⟩, .string ⟨#[121]⟩, .string ⟨#[118, 48]⟩, .string ⟨#[97]⟩] 9)) (some ⟨g, 0, none⟩) 4 4 lmL := by subst h; exact sv_lit w lmL 4 4 9 rfl
theorem lit2 {w : World} {g : Nat} {x y : ByteArray} (h : w.heap.size = g) : SV (w.alloc (.cells #[.string x, .string y] 9)) (some ⟨g, 0, none⟩) 2 2 [x, y] := by subst h; exact sv_lit w [x, y] 2 2 9 rfl
theorem prb_txt (a : STy) : ((({ data := #[40, 42, 32] } : ByteArray) ++ a.tree.txt) ++ ({ data := #[32, 98, 41] } : ByteArray)) = (STy.pair a .bit).tree.txt := by
  rw [← kpr_txt, ← bit_txt]
  apply ByteArray.ext; apply Array.toList_inj.1
  simp
theorem bpr_txt (a : STy) : ((({ data := #[40, 42, 32, 98, 32] } : ByteArray) ++ a.tree.txt) ++ ({ data := #[41] } : ByteArray)) = (STy.pair .bit a).tree.txt := by
  rw [← kpr_txt, ← bit_txt]
  apply ByteArray.ext; apply Array.toList_inj.1
  simp

set_option maxRecDepth 100000 in
set_option maxHeartbeats 32000000 in
theorem srcE_succ {b d : Nat} (hd : d ≤ 5) (ih : SDraw b d) (i0 : SDraw b 0) : SDraw b (d + 1) := by
  intro s want r w p q n c0 e ns ts i ef hw hz hsc hr hq hn hi
  subst hw
  subst hi
  rw [show ((d + 1 : Nat) : Int) = (d : Int) + 1 from by omega]
  have hmE : mE (d + 1) = 3 * mE d + 300 := rfl
  have hm1 : 1000 ≤ mE d := mE_ge d
  have hm2 : mE d ≤ 100000000 := mE_le d hd
  rw [hmE] at hq ⊢
  have HIH := hid ih
  have HI0 := hid i0
  have HT := hid (fun W => l7Typed_sty s (by omega) W)
  have HSC := hid hsc
  have HR := hid hr
  obtain ⟨want, hwant⟩ : ∃ want, s.tree = want := ⟨_, rfl⟩
  clear want hwant
  obtain ⟨want, hwant⟩ : ∃ want, s.tree.txt = want := ⟨_, rfl⟩
  have HWT := hid hwant
  rw [hwant] at HT hz ⊢
  obtain ⟨M, hM⟩ : ∃ M, mE d = M := ⟨_, rfl⟩
  have HM := hid hM
  rw [hM] at hq hm1 hm2 ⊢
  have hwz : want.size ≤ 100 := by omega
  have hd1 : (0 : Int) < (d : Int) + 1 := by omega
  have hd2 : ¬ ((d : Int) + 1 ≤ 0) := by omega
  have hd3 : decide ((d : Int) + 1 ≤ 0) = false := decide_eq_false hd2
  clear hsc hr hM ih i0 hwant
  go_enter Tryd.func11, Tryd.ntmps11
  go_wp2_with fail
  go_at_call 19
  refine (HT.out _).mono ?_
  rintro e1 w1 ⟨a1, p1, l1, c1, k1, rfl, ht1, hb1⟩
  have HSD := hid (sd_start HSC.out HR.out ht1 hb1)
  obtain ⟨W2, hW2⟩ : ∃ W, w1.alloc (.cells #[.string a1, .slice p1 l1 c1] 44) = W := ⟨_, rfl⟩
  have hzw : W2.heap.size - 1 = w1.heap.size := by rw [← hW2]; simp
  rw [hW2] at HSD
  have HD := hid HSD.out.1
  have HR2 := hid HSD.out.2
  have HWE := hid hW2
  have HX2 := hid (Px.refl b W2)
  have HZW := hid hzw
  clear ht1 hb1 hW2 HSD hzw
  go_wp2_with fail
  rw [HWE.out]
  go_at_call 21
  refine (pick_any HR2.out (by omega) 10 (by omega)).mono ?_
  rintro e2 w4 ⟨x4, rfl, hx4a, hx4b, _, hr4, hp4⟩
  have hx4c : x4 < 10 := hx4b (by decide)
  have HR4 := hid hr4
  have HX4 := hid hp4
  clear hr4 hp4 hx4b
  have hcs := cases10 hx4a hx4c
  clear hx4a hx4c
  rcases hcs with rfl | rfl | rfl | rfl | rfl | hcs
  iterate 2
    · go_wp2_with fail
      go_at_call 23
      refine (kdraw_any b 1 (by omega) _ _ _ HR4.out (by have : kcost 1 = 2 := rfl; omega) rfl).mono ?_
      rintro e5 w5 ⟨K, rfl, hK, hr5, hp5⟩
      have HR5 := hid (hr5.le (show _ ≤ r + 3 from by have : kcost 1 = 2 := rfl; omega)).drew
      have HX4b := hid (HX4.out.trans hp5)
      have HX5 := hid (HX4b.out.trans (px_drewM b w5))
      have hkz : K.tree.txt.size ≤ 7 := hK
      have HF1 := hid (fn_txt K s)
      have HF2 := hid (fn_tsz K s)
      obtain ⟨S5, hS5⟩ : ∃ S5, K.tree.txt = S5 := ⟨_, rfl⟩
      have HK5 := hid hS5
      rw [hS5] at hkz HF1 HF2 ⊢
      rw [HWT.out] at HF1 HF2
      clear hr5 hp5 hK hS5
      have u_0 : ¬ 9223372036854775807 < 3 + S5.size := by omega
      have u_1 : ¬ 9223372036854775807 < 3 + S5.size + 1 := by omega
      have u_2 : ¬ 9223372036854775807 < 3 + S5.size + 1 + want.size := by omega
      have u_3 : ¬ 9223372036854775807 < 3 + S5.size + 1 + want.size + 1 := by omega
      obtain ⟨k0, k1x⟩ := HD.out.cells _ HX4b.out
      go_wp2_with fail
      go_region_held3 (fun w' => w'.cell? ⟨w.heap.size, 0, none⟩ = some (.slice p n c0) ∧ w'.cell? ⟨w.heap.size, 1, none⟩ = some (.slice q n e))
        (first | exact HD.out.cells _ HX5.out | exact HD.out.cells _ HX6.out | exact HD.out.cells _ HX7.out)
        (first
          | (have _ := HR6
             go_at_call 11
             refine (HIH.out K _ _ _ _ _ _ _ _ _ _ _ _ (HK5.out.symm) (by omega) (HD.out.scope _ HX6.out) HR6.out (by rw [HM.out]; omega) (by omega) (by omega)).mono ?_
             rintro e7 w7 ⟨s7, rfl, hs7, hr7, hp7⟩
             have hz7 : s7.size ≤ M := by rw [← HM.out]; exact hs7
             have HR7 := hid (show Rd w7 b (r + 3 + M + M) from by have h := hr7; rw [HM.out] at h; exact h.le (by omega))
             have HX7 := hid ((HX6).out.trans hp7)
             have t7_0 : ¬ 9223372036854775807 < 5 + s6.size := by omega
             have t7_1 : ¬ 9223372036854775807 < 5 + s6.size + 1 := by omega
             have t7_2 : ¬ 9223372036854775807 < 5 + s6.size + 1 + s7.size := by omega
             have t7_3 : ¬ 9223372036854775807 < 5 + s6.size + 1 + s7.size + 1 := by omega
             clear hr7 hp7 hs7)
          | (go_at_call 11
             refine (HIH.out (.fn K s) _ _ _ _ _ _ _ _ _ _ _ _ (HF1.out.symm) (by rw [← HF1.out, HF2.out]; omega) (HD.out.scope _ HX5.out) HR5.out (by rw [HM.out]; omega) (by omega) (by omega)).mono ?_
             rintro e6 w6 ⟨s6, rfl, hs6, hr6, hp6⟩
             have hz6 : s6.size ≤ M := by rw [← HM.out]; exact hs6
             have HR6 := hid (show Rd w6 b (r + 3 + M) from by have h := hr6; rw [HM.out] at h; exact h.le (by omega))
             have HX6 := hid ((HX5).out.trans hp6)
             have t6_0 : ¬ 9223372036854775807 < 5 + s6.size := by omega
             have t6_1 : ¬ 9223372036854775807 < 5 + s6.size + 1 := by omega
             clear hr6 hp6 hs6))
      all_goals
        go_wp2_with fail
        go_ret
        refine ⟨_, rfl, ?_, (HR7.out.le (by omega)), HD.out.px.trans HX7.out⟩
        simp only [ByteArray.size_append, bsz]; simp; omega
  · have HR5 := hid HR4.out.drew
    have HX5 := hid (HX4.out.trans (px_drewM b w4))
    have hb1 : (⟨#[98]⟩ : ByteArray).size = 1 := rfl
    obtain ⟨k0, k1x⟩ := HD.out.cells _ HX4.out
    go_wp2_with fail
    go_region_held3 (fun w' => w'.cell? ⟨w.heap.size, 0, none⟩ = some (.slice p n c0) ∧ w'.cell? ⟨w.heap.size, 1, none⟩ = some (.slice q n e))
      (first | exact HD.out.cells _ HX5.out | exact HD.out.cells _ HX6.out | exact HD.out.cells _ HX7.out | exact HD.out.cells _ HX8.out)
      (first
        | (have _ := HR7
           go_at_call 11
           refine (HIH.out s _ _ _ _ _ _ _ _ _ _ _ _ (HWT.out.symm) (by omega) (HD.out.scope _ HX7.out) HR7.out (by rw [HM.out]; omega) (by omega) (by omega)).mono ?_
           rintro e8 w8 ⟨s8, rfl, hs8, hr8, hp8⟩
           have hz8 : s8.size ≤ M := by rw [← HM.out]; exact hs8
           have HR8 := hid (show Rd w8 b (r + 1 + M + M + M) from by have h := hr8; rw [HM.out] at h; exact h.le (by omega))
           have HX8 := hid ((HX7).out.trans hp8)
           have t8_0 : ¬ 9223372036854775807 < 4 + s6.size := by omega
           have t8_1 : ¬ 9223372036854775807 < 4 + s6.size + 1 := by omega
           have t8_2 : ¬ 9223372036854775807 < 4 + s6.size + 1 + s7.size := by omega
           have t8_3 : ¬ 9223372036854775807 < 4 + s6.size + 1 + s7.size + 1 := by omega
           have t8_4 : ¬ 9223372036854775807 < 4 + s6.size + 1 + s7.size + 1 + s8.size := by omega
           have t8_5 : ¬ 9223372036854775807 < 4 + s6.size + 1 + s7.size + 1 + s8.size + 1 := by omega
           clear hr8 hp8 hs8)
        | (have _ := HR6
           go_at_call 11
           refine (HIH.out s _ _ _ _ _ _ _ _ _ _ _ _ (HWT.out.symm) (by omega) (HD.out.scope _ HX6.out) HR6.out (by rw [HM.out]; omega) (by omega) (by omega)).mono ?_
           rintro e7 w7 ⟨s7, rfl, hs7, hr7, hp7⟩
           have hz7 : s7.size ≤ M := by rw [← HM.out]; exact hs7
           have HR7 := hid (show Rd w7 b (r + 1 + M + M) from by have h := hr7; rw [HM.out] at h; exact h.le (by omega))
           have HX7 := hid ((HX6).out.trans hp7)
           have t7_0 : ¬ 9223372036854775807 < 4 + s6.size := by omega
           have t7_1 : ¬ 9223372036854775807 < 4 + s6.size + 1 := by omega
           have t7_2 : ¬ 9223372036854775807 < 4 + s6.size + 1 + s7.size := by omega
           have t7_3 : ¬ 9223372036854775807 < 4 + s6.size + 1 + s7.size + 1 := by omega
           clear hr7 hp7 hs7)
        | (go_at_call 11
           refine (HIH.out .bit _ _ _ _ _ _ _ _ _ _ _ _ (bit_txt) (by rw [hb1]; omega) (HD.out.scope _ HX5.out) HR5.out (by rw [HM.out]; omega) (by omega) (by omega)).mono ?_
           rintro e6 w6 ⟨s6, rfl, hs6, hr6, hp6⟩
           have hz6 : s6.size ≤ M := by rw [← HM.out]; exact hs6
           have HR6 := hid (show Rd w6 b (r + 1 + M) from by have h := hr6; rw [HM.out] at h; exact h.le (by omega))
           have HX6 := hid ((HX5).out.trans hp6)
           have t6_0 : ¬ 9223372036854775807 < 4 + s6.size := by omega
           have t6_1 : ¬ 9223372036854775807 < 4 + s6.size + 1 := by omega
           clear hr6 hp6 hs6))
    all_goals
      go_wp2_with fail
      go_ret
      refine ⟨_, rfl, ?_, (HR8.out.le (by omega)), HD.out.px.trans HX8.out⟩
      simp only [ByteArray.size_append, bsz]; simp; omega
  · have HF1 := hid (prb_txt s)
    have HF2 := hid (pr_tsz s .bit)
    have hb1 : STy.bit.tree.txt.size = 1 := rfl
    rw [HWT.out] at HF1 HF2
    rw [hb1] at HF2
    have u_0 : ¬ 9223372036854775807 < 3 + want.size := by omega
    have u_1 : ¬ 9223372036854775807 < 3 + want.size + 3 := by omega
    obtain ⟨k0, k1x⟩ := HD.out.cells _ HX4.out
    go_wp2_with fail
    go_at_call 11
    refine (HIH.out (.pair s .bit) _ _ _ _ _ _ _ _ _ _ _ _ (HF1.out) (by rw [HF1.out, HF2.out]; omega) (HD.out.scope _ HX4.out) HR4.out (by rw [HM.out]; omega) (by omega) (by omega)).mono ?_
    rintro e6 w6 ⟨s6, rfl, hs6, hr6, hp6⟩
    have hz6 : s6.size ≤ M := by rw [← HM.out]; exact hs6
    have HR6 := hid (show Rd w6 b (r + 1 + M) from by have h := hr6; rw [HM.out] at h; exact h.le (by omega))
    have HX6 := hid ((HX4).out.trans hp6)
    have t6_0 : ¬ 9223372036854775807 < 5 + s6.size := by omega
    have t6_1 : ¬ 9223372036854775807 < 5 + s6.size + 1 := by omega
    clear hr6 hp6 hs6
    go_wp2_with fail
    go_ret
    refine ⟨_, rfl, ?_, (HR6.out.le (by omega)), HD.out.px.trans HX6.out⟩
    simp only [ByteArray.size_append, bsz]; simp; omega
  · have HF1 := hid (bpr_txt s)
    have HF2 := hid (pr_tsz .bit s)
    have hb1 : STy.bit.tree.txt.size = 1 := rfl
    rw [HWT.out] at HF1 HF2
    rw [hb1] at HF2
    have u_0 : ¬ 9223372036854775807 < 5 + want.size := by omega
    have u_1 : ¬ 9223372036854775807 < 5 + want.size + 1 := by omega
    obtain ⟨k0, k1x⟩ := HD.out.cells _ HX4.out
    go_wp2_with fail
    go_at_call 11
    refine (HIH.out (.pair .bit s) _ _ _ _ _ _ _ _ _ _ _ _ (HF1.out) (by rw [HF1.out, HF2.out]; omega) (HD.out.scope _ HX4.out) HR4.out (by rw [HM.out]; omega) (by omega) (by omega)).mono ?_
    rintro e6 w6 ⟨s6, rfl, hs6, hr6, hp6⟩
    have hz6 : s6.size ≤ M := by rw [← HM.out]; exact hs6
    have HR6 := hid (show Rd w6 b (r + 1 + M) from by have h := hr6; rw [HM.out] at h; exact h.le (by omega))
    have HX6 := hid ((HX4).out.trans hp6)
    have t6_0 : ¬ 9223372036854775807 < 5 + s6.size := by omega
    have t6_1 : ¬ 9223372036854775807 < 5 + s6.size + 1 := by omega
    clear hr6 hp6 hs6
    go_wp2_with fail
    go_ret
    refine ⟨_, rfl, ?_, (HR6.out.le (by omega)), HD.out.px.trans HX6.out⟩
    simp only [ByteArray.size_append, bsz]; simp; omega
  · have hcs5 : x4 = 5 ∨ (x4 = 6 ∨ x4 = 7 ∨ x4 = 8 ∨ x4 = 9) := hcs
    clear hcs
    obtain ⟨f0, f1⟩ := HD.out.tcell _ HX4.out
    rw [HZW.out] at f0 f1
    rcases hcs5 with rfl | hcs
    · cases ef with
      | false =>
        have HRt := hid (HR4.out.le (show r + 1 ≤ r + 2 by omega))
        have HXt := HX4
        cases s with
        | bit =>
          have HHD := hid (fun W (hx : Px b W2 W) => (show Calls Tryd.prog 24 #[.agg #[.string a1, .slice p1 l1 c1]] W fun e w' => e = .returned (.string ByteArray.empty) ∧ Below W.heap.size W w' from l1Head_any (HD.out.tree W hx) W (Kept.refl _)))
          go_wp2_with fail
          go_at_call 24
          refine (HHD.out _ HXt.out).mono ?_
          rintro e10 w10 ⟨rfl, hb10⟩
          have HX10 := hid (HXt.out.trans (Px.below hb10 (Nat.le_refl _)))
          have HR10 := hid (HRt.out.below hb10 HRt.out.lt (Nat.le_refl _))
          clear hb10
          go_wp2_with fail
          go_at_call 21
          refine (pick_any HR10.out (by omega) 3 (by omega)).mono ?_
          rintro e11 w11 ⟨x11, rfl, hx11a, hx11b, _, hr11, hp11⟩
          have HR11 := hid (show Rd w11 b (r + 2 + 1) from hr11.le (by omega))
          have HX11 := hid (HX10.out.trans hp11)
          clear hr11 hp11 hx11b
          obtain ⟨k0, k1x⟩ := HD.out.cells _ HX11.out
          by_cases h11 : x11 = 0
          · subst h11
            go_wp2_with fail
            go_at_call 25
            refine (rof_any (HR11.out.alloc _) (by omega) w11.heap.size 2 2 1 zbL (zbL_lit rfl) (by omega) (by omega) (by have := HR11.out.lt; omega) zbL_small).mono ?_
            rintro e12 w12 ⟨s12, rfl, hs12, hr12, hp12⟩
            have HR12 := hid hr12
            have HX12 := hid ((HX11.out.alloc _).trans hp12)
            have hz12 : s12.size ≤ 1 := hs12
            clear hr12 hp12 hs12
            go_wp2_with fail
            go_ret
            exact ⟨_, rfl, by omega, (HR12.out.le (by omega)), HD.out.px.trans HX12.out⟩
          · have h11b : (x11 == 0) = false := beq_eq_false_iff_ne.2 h11
            go_wp2_with fail
            go_at_call 11
            refine (HI0.out .bit _ _ _ _ _ _ _ _ _ _ _ _ (HWT.out.symm) (by omega) (HD.out.scope _ HX11.out) HR11.out (by rw [show mE 0 = 1000 from rfl]; omega) (by omega) (by rfl)).mono ?_
            rintro e12 w12 ⟨s12, rfl, hs12, hr12, hp12⟩
            have hz12 : s12.size ≤ 1000 := hs12
            have HR12 := hid (show Rd w12 b (r + 2 + 1 + 1000) from hr12.le (by rw [show mE 0 = 1000 from rfl]; omega))
            have HX12 := hid (HX11.out.trans hp12)
            clear hr12 hp12 hs12
            go_wp2_with fail
            go_ret
            exact ⟨_, rfl, by omega, (HR12.out.le (by omega)), HD.out.px.trans HX12.out⟩
        | fn a c =>
          have HW3 := hid (fn_tsz a c)
          rw [HWT.out] at HW3
          have hw3 := HW3.out
          obtain ⟨tb, cap, A, hA, hcap, hs0, hs1, tq, tx, ty⟩ := tin3 (HD.out.tree W2 (Px.refl _ _))
          obtain ⟨rfl, rfl, rfl, rfl⟩ : a1 = ByteArray.empty ∧ p1 = some ⟨tb, 0, none⟩ ∧ l1 = 3 ∧ c1 = cap := by simpa using hA
          have htb : tb ≠ b := rd_ne1 HR2.out (hs0 0 (by decide))
          have HKK := hid (fun W (hx : Px b W2 W) => (show W.cell? ⟨w.heap.size, 0, none⟩ = some (.slice p n c0) ∧ W.cell? ⟨w.heap.size, 1, none⟩ = some (.slice q n e) ∧ W.cell? ⟨w1.heap.size, 1, none⟩ = some (.slice (some ⟨tb, 0, none⟩) 3 c1) ∧ W.cell? ⟨tb, 2, none⟩ = some (.string (A 1).a) ∧ W.cell? ⟨tb, 3, none⟩ = some (.slice (A 1).p (A 1).l (A 1).c) ∧ W.cell? ⟨tb, 4, none⟩ = some (.string (A 2).a) ∧ W.cell? ⟨tb, 5, none⟩ = some (.slice (A 2).p (A 2).l (A 2).c) from by
            have hc0 := HD.out.cells W hx
            have hc1 := (HD.out.tcell W hx).2
            rw [HZW.out] at hc1
            exact ⟨hc0.1, hc0.2, hc1, hx.cell htb (hs0 1 (by decide)), hx.cell htb (hs1 1 (by decide)), hx.cell htb (hs0 2 (by decide)), hx.cell htb (hs1 2 (by decide))⟩))
          have haz : a.tree.txt.size ≤ 100 := by omega
          have hcz : c.tree.txt.size ≤ 100 := by omega
          have HT1 := hid (fun W (hx : Px b W2 W) => (show Calls Tryd.prog 26 #[.agg #[.string (A 1).a, .slice (A 1).p (A 1).l (A 1).c]] W fun e w' => e = .returned (.string a.tree.txt) ∧ Below W.heap.size W w' from l1Text_any (tx.keep (fun k hk hl => hx.block k hl hk) (fun _ hk _ => hk)) (by have := txt_size a.tree; omega) (parse_wt (parse_sty a haz)) W (Kept.refl _) (Nat.le_refl _)))
          have HT2 := hid (fun W (hx : Px b W2 W) => (show Calls Tryd.prog 26 #[.agg #[.string (A 2).a, .slice (A 2).p (A 2).l (A 2).c]] W fun e w' => e = .returned (.string c.tree.txt) ∧ Below W.heap.size W w' from l1Text_any (ty.keep (fun k hk hl => hx.block k hl hk) (fun _ hk _ => hk)) (by have := txt_size c.tree; omega) (parse_wt (parse_sty c hcz)) W (Kept.refl _) (Nat.le_refl _)))
          have HHD := hid (fun W (hx : Px b W2 W) => (show Calls Tryd.prog 24 #[.agg #[.string ByteArray.empty, .slice (some ⟨tb, 0, none⟩) 3 c1]] W fun e w' => e = .returned (.string ⟨#[62]⟩) ∧ Below W.heap.size W w' from l1Head_any (HD.out.tree W hx) W (Kept.refl _)))
          obtain ⟨KA, hKA⟩ : ∃ K, a.tree.txt = K := ⟨_, rfl⟩
          obtain ⟨KC, hKC⟩ : ∃ K, c.tree.txt = K := ⟨_, rfl⟩
          have HKA := hid hKA
          have HKC := hid hKC
          rw [hKA] at HT1 haz hw3
          rw [hKC] at HT2 hcz hw3
          clear hKA hKC hs0 hs1 tq tx ty hA hcap HW3
          go_wp2_with fail
          go_at_call 24
          refine (HHD.out _ HXt.out).mono ?_
          rintro e10 w10 ⟨rfl, hb10⟩
          have HX10 := hid (HXt.out.trans (Px.below hb10 (Nat.le_refl _)))
          have HR10 := hid (HRt.out.below hb10 HRt.out.lt (Nat.le_refl _))
          clear hb10
          go_wp2_with fail
          go_at_call 25
          refine (rof_any (HR10.out.alloc _) (by omega) w10.heap.size 4 4 2 lmL (lmL_lit rfl) (by omega) (by omega) (by have := HR10.out.lt; omega) lmL_small).mono ?_
          rintro e11 w11 ⟨s11, rfl, hs11, hr11, hp11⟩
          have HR11 := hid (show Rd w11 b (r + 3) from hr11)
          have HX11 := hid ((HX10.out.alloc _).trans hp11)
          have hz11 : s11.size ≤ 2 := hs11
          clear hr11 hp11 hs11
          obtain ⟨g0, g1, g2, g3, g4, g5, g6⟩ := HKK.out _ HX11.out
          go_wp2_with fail
          go_at_call 26
          refine (HT1.out _ HX11.out).mono ?_
          rintro e12 w12 ⟨rfl, hb12⟩
          have HX12 := hid (HX11.out.trans (Px.below hb12 (Nat.le_refl _)))
          have HR12 := hid (HR11.out.below hb12 HR11.out.lt (Nat.le_refl _))
          clear hb12 g0 g1 g2 g3 g4 g5 g6
          obtain ⟨g0, g1, g2, g3, g4, g5, g6⟩ := HKK.out _ HX12.out
          have HX12d := hid (HX12.out.trans (px_drewM b w12))
          have HR12d := hid HR12.out.drew
          have v_0 : ¬ 9223372036854775807 < 5 + s11.size := by omega
          have v_1 : ¬ 9223372036854775807 < 5 + s11.size + 1 := by omega
          have v_2 : ¬ 9223372036854775807 < 5 + s11.size + 1 + KA.size := by omega
          have v_3 : ¬ 9223372036854775807 < 5 + s11.size + 1 + KA.size + 1 := by omega
          go_wp2_with fail
          go_region_held3 (fun w' => w'.cell? ⟨w.heap.size, 0, none⟩ = some (.slice p n c0) ∧ w'.cell? ⟨w.heap.size, 1, none⟩ = some (.slice q n e) ∧ w'.cell? ⟨w1.heap.size, 1, none⟩ = some (.slice (some ⟨tb, 0, none⟩) 3 c1) ∧ w'.cell? ⟨tb, 2, none⟩ = some (.string (A 1).a) ∧ w'.cell? ⟨tb, 3, none⟩ = some (.slice (A 1).p (A 1).l (A 1).c) ∧ w'.cell? ⟨tb, 4, none⟩ = some (.string (A 2).a) ∧ w'.cell? ⟨tb, 5, none⟩ = some (.slice (A 2).p (A 2).l (A 2).c))
            (first | exact HKK.out _ HX12d.out | exact HKK.out _ HX13.out | exact HKK.out _ HX14.out | exact HKK.out _ HX15.out)
            (first
              | (have _ := HX14
                 go_at_call 11
                 refine (HIH.out c _ _ _ _ _ _ _ _ _ _ _ _ (HKC.out.symm) (by omega) (HM14.out _ (Px.refl _ _)) HR14.out (by rw [HM.out]; omega) (by omega) (by omega)).mono ?_
                 rintro e15 w15 ⟨s15, rfl, hs15, hr15, hp15⟩
                 have hz15 : s15.size ≤ M := by rw [← HM.out]; exact hs15
                 have HR15 := hid (show Rd w15 b (r + 3 + M) from by have h := hr15; rw [HM.out] at h; exact h.le (by omega))
                 have HX15 := hid ((HX14).out.trans hp15)
                 have t15_0 : ¬ 9223372036854775807 < 5 + s11.size := by omega
                 have t15_1 : ¬ 9223372036854775807 < 5 + s11.size + 1 := by omega
                 have t15_2 : ¬ 9223372036854775807 < 5 + s11.size + 1 + KA.size := by omega
                 have t15_3 : ¬ 9223372036854775807 < 5 + s11.size + 1 + KA.size + 1 := by omega
                 have t15_4 : ¬ 9223372036854775807 < 5 + s11.size + 1 + KA.size + 1 + s15.size := by omega
                 have t15_5 : ¬ 9223372036854775807 < 5 + s11.size + 1 + KA.size + 1 + s15.size + 1 := by omega
                 clear hr15 hp15 hs15)
              | (have _ := HX13
                 go_at_call 26
                 refine (HT2.out _ HX13.out).mono ?_
                 rintro e14 w14 ⟨rfl, hb14⟩
                 have HX14 := hid (HX13.out.trans (Px.below hb14 (Nat.le_refl _)))
                 have HR14 := hid (HR13.out.below hb14 HR13.out.lt (Nat.le_refl _))
                 have HM14 := hid (fun W (hx : Px b w14 W) => HM13.out W ((Px.below hb14 (Nat.le_refl _)).trans hx))
                 clear hb14)
              | (go_at_call 27
                 refine (more_at (wB := W2) (wC := W2) HD.out.scope (by omega) (C := fun _ => True) (fun _ _ _ _ _ _ => trivial) s11 KA (Nat.le_trans hz11 (by decide)) w12.drew _ HR12d.out HX12d.out HX12d.out trivial).mono ?_
                 rintro e13 w13 ⟨p13, q13, c13, d13, rfl, hm13, hr13, hp13, _⟩
                 have HM13 := hid hm13
                 have HR13 := hid hr13
                 have HX13 := hid hp13
                 clear hm13 hr13 hp13))
          all_goals
            go_wp2_with fail
            go_ret
            refine ⟨_, rfl, ?_, (HR15.out.le (by omega)), HD.out.px.trans HX15.out⟩
            simp only [ByteArray.size_append, bsz]; simp; omega
        | pair a c =>
          have HW3 := hid (pr_tsz a c)
          rw [HWT.out] at HW3
          have hw3 := HW3.out
          obtain ⟨tb, cap, A, hA, hcap, hs0, hs1, tq, tx, ty⟩ := tin3 (HD.out.tree W2 (Px.refl _ _))
          obtain ⟨rfl, rfl, rfl, rfl⟩ : a1 = ByteArray.empty ∧ p1 = some ⟨tb, 0, none⟩ ∧ l1 = 3 ∧ c1 = cap := by simpa using hA
          have htb : tb ≠ b := rd_ne1 HR2.out (hs0 0 (by decide))
          have HKK := hid (fun W (hx : Px b W2 W) => (show W.cell? ⟨w.heap.size, 0, none⟩ = some (.slice p n c0) ∧ W.cell? ⟨w.heap.size, 1, none⟩ = some (.slice q n e) ∧ W.cell? ⟨w1.heap.size, 1, none⟩ = some (.slice (some ⟨tb, 0, none⟩) 3 c1) ∧ W.cell? ⟨tb, 2, none⟩ = some (.string (A 1).a) ∧ W.cell? ⟨tb, 3, none⟩ = some (.slice (A 1).p (A 1).l (A 1).c) ∧ W.cell? ⟨tb, 4, none⟩ = some (.string (A 2).a) ∧ W.cell? ⟨tb, 5, none⟩ = some (.slice (A 2).p (A 2).l (A 2).c) from by
            have hc0 := HD.out.cells W hx
            have hc1 := (HD.out.tcell W hx).2
            rw [HZW.out] at hc1
            exact ⟨hc0.1, hc0.2, hc1, hx.cell htb (hs0 1 (by decide)), hx.cell htb (hs1 1 (by decide)), hx.cell htb (hs0 2 (by decide)), hx.cell htb (hs1 2 (by decide))⟩))
          have haz : a.tree.txt.size ≤ 100 := by omega
          have hcz : c.tree.txt.size ≤ 100 := by omega
          have HT1 := hid (fun W (hx : Px b W2 W) => (show Calls Tryd.prog 26 #[.agg #[.string (A 1).a, .slice (A 1).p (A 1).l (A 1).c]] W fun e w' => e = .returned (.string a.tree.txt) ∧ Below W.heap.size W w' from l1Text_any (tx.keep (fun k hk hl => hx.block k hl hk) (fun _ hk _ => hk)) (by have := txt_size a.tree; omega) (parse_wt (parse_sty a haz)) W (Kept.refl _) (Nat.le_refl _)))
          have HT2 := hid (fun W (hx : Px b W2 W) => (show Calls Tryd.prog 26 #[.agg #[.string (A 2).a, .slice (A 2).p (A 2).l (A 2).c]] W fun e w' => e = .returned (.string c.tree.txt) ∧ Below W.heap.size W w' from l1Text_any (ty.keep (fun k hk hl => hx.block k hl hk) (fun _ hk _ => hk)) (by have := txt_size c.tree; omega) (parse_wt (parse_sty c hcz)) W (Kept.refl _) (Nat.le_refl _)))
          have HHD := hid (fun W (hx : Px b W2 W) => (show Calls Tryd.prog 24 #[.agg #[.string ByteArray.empty, .slice (some ⟨tb, 0, none⟩) 3 c1]] W fun e w' => e = .returned (.string ⟨#[42]⟩) ∧ Below W.heap.size W w' from l1Head_any (HD.out.tree W hx) W (Kept.refl _)))
          obtain ⟨KA, hKA⟩ : ∃ K, a.tree.txt = K := ⟨_, rfl⟩
          obtain ⟨KC, hKC⟩ : ∃ K, c.tree.txt = K := ⟨_, rfl⟩
          have HKA := hid hKA
          have HKC := hid hKC
          rw [hKA] at HT1 haz hw3
          rw [hKC] at HT2 hcz hw3
          clear hKA hKC hs0 hs1 tq tx ty hA hcap HW3
          go_wp2_with fail
          go_at_call 24
          refine (HHD.out _ HXt.out).mono ?_
          rintro e10 w10 ⟨rfl, hb10⟩
          have HX10 := hid (HXt.out.trans (Px.below hb10 (Nat.le_refl _)))
          have HR10 := hid (HRt.out.below hb10 HRt.out.lt (Nat.le_refl _))
          clear hb10
          obtain ⟨g0, g1, g2, g3, g4, g5, g6⟩ := HKK.out _ HX10.out
          have HX10d := hid (HX10.out.trans (px_drewM b w10))
          have HR10d := hid HR10.out.drew
          go_wp2_with fail
          go_region_held3 (fun w' => w'.cell? ⟨w.heap.size, 0, none⟩ = some (.slice p n c0) ∧ w'.cell? ⟨w.heap.size, 1, none⟩ = some (.slice q n e) ∧ w'.cell? ⟨w1.heap.size, 1, none⟩ = some (.slice (some ⟨tb, 0, none⟩) 3 c1) ∧ w'.cell? ⟨tb, 2, none⟩ = some (.string (A 1).a) ∧ w'.cell? ⟨tb, 3, none⟩ = some (.slice (A 1).p (A 1).l (A 1).c) ∧ w'.cell? ⟨tb, 4, none⟩ = some (.string (A 2).a) ∧ w'.cell? ⟨tb, 5, none⟩ = some (.slice (A 2).p (A 2).l (A 2).c))
            (first | exact HKK.out _ HX10d.out | exact HKK.out _ HX11.out | exact HKK.out _ HX12.out | exact HKK.out _ HX13.out | exact HKK.out _ HX14.out)
            (first
              | (have _ := HX13
                 go_at_call 11
                 refine (HIH.out c _ _ _ _ _ _ _ _ _ _ _ _ (HKC.out.symm) (by omega) (HD.out.scope _ HX13.out) HR13.out (by rw [HM.out]; omega) (by omega) (by omega)).mono ?_
                 rintro e14 w14 ⟨s14, rfl, hs14, hr14, hp14⟩
                 have hz14 : s14.size ≤ M := by rw [← HM.out]; exact hs14
                 have HR14 := hid (show Rd w14 b (r + 2 + M + M) from by have h := hr14; rw [HM.out] at h; exact h.le (by omega))
                 have HX14 := hid ((HX13).out.trans hp14)
                 have t14_0 : ¬ 9223372036854775807 < 6 + s12.size := by omega
                 have t14_1 : ¬ 9223372036854775807 < 6 + s12.size + 1 := by omega
                 have t14_2 : ¬ 9223372036854775807 < 6 + s12.size + 1 + s14.size := by omega
                 have t14_3 : ¬ 9223372036854775807 < 6 + s12.size + 1 + s14.size + 1 := by omega
                 clear hr14 hp14 hs14)
              | (have _ := HX12
                 go_at_call 26
                 refine (HT2.out _ HX12.out).mono ?_
                 rintro e13 w13 ⟨rfl, hb13⟩
                 have HX13 := hid (HX12.out.trans (Px.below hb13 (Nat.le_refl _)))
                 have HR13 := hid (HR12.out.below hb13 HR12.out.lt (Nat.le_refl _))
                 clear hb13)
              | (have _ := HX11
                 go_at_call 11
                 refine (HIH.out a _ _ _ _ _ _ _ _ _ _ _ _ (HKA.out.symm) (by omega) (HD.out.scope _ HX11.out) HR11.out (by rw [HM.out]; omega) (by omega) (by omega)).mono ?_
                 rintro e12 w12 ⟨s12, rfl, hs12, hr12, hp12⟩
                 have hz12 : s12.size ≤ M := by rw [← HM.out]; exact hs12
                 have HR12 := hid (show Rd w12 b (r + 2 + M) from by have h := hr12; rw [HM.out] at h; exact h.le (by omega))
                 have HX12 := hid ((HX11).out.trans hp12)
                 have t12_0 : ¬ 9223372036854775807 < 6 + s12.size := by omega
                 have t12_1 : ¬ 9223372036854775807 < 6 + s12.size + 1 := by omega
                 clear hr12 hp12 hs12)
              | (go_at_call 26
                 refine (HT1.out _ HX10d.out).mono ?_
                 rintro e11 w11 ⟨rfl, hb11⟩
                 have HX11 := hid (HX10d.out.trans (Px.below hb11 (Nat.le_refl _)))
                 have HR11 := hid (HR10d.out.below hb11 HR10d.out.lt (Nat.le_refl _))
                 clear hb11))
          all_goals
            go_wp2_with fail
            go_ret
            refine ⟨_, rfl, ?_, (HR14.out.le (by omega)), HD.out.px.trans HX14.out⟩
            simp only [ByteArray.size_append, bsz]; simp; omega
      | true =>
        go_wp2_with fail
        go_at_call 21
        refine (pick_any HR4.out (by omega) 4 (by omega)).mono ?_
        rintro e5 w5 ⟨x5, rfl, hx5a, hx5b, _, hr5, hp5⟩
        have HRt := hid (show Rd w5 b (r + 2) from hr5)
        have HXt := hid (HX4.out.trans hp5)
        clear hr5 hp5 hx5b f0 f1
        obtain ⟨f0, f1⟩ := HD.out.tcell _ HXt.out
        rw [HZW.out] at f0 f1
        by_cases h5 : x5 = 0
        · subst h5
          have u_0 : ¬ 9223372036854775807 < 6 + want.size := by omega
          have u_1 : ¬ 9223372036854775807 < 6 + want.size + 1 := by omega
          go_wp2_with fail
          go_ret
          exact ⟨_, rfl, by simp only [ByteArray.size_append, bsz]; simp; omega, (HRt.out.le (by omega)), HD.out.px.trans HXt.out⟩
        · have h5b : (x5 == 0) = false := beq_eq_false_iff_ne.2 h5
          cases s with
          | bit =>
            have HHD := hid (fun W (hx : Px b W2 W) => (show Calls Tryd.prog 24 #[.agg #[.string a1, .slice p1 l1 c1]] W fun e w' => e = .returned (.string ByteArray.empty) ∧ Below W.heap.size W w' from l1Head_any (HD.out.tree W hx) W (Kept.refl _)))
            go_wp2_with fail
            go_at_call 24
            refine (HHD.out _ HXt.out).mono ?_
            rintro e10 w10 ⟨rfl, hb10⟩
            have HX10 := hid (HXt.out.trans (Px.below hb10 (Nat.le_refl _)))
            have HR10 := hid (HRt.out.below hb10 HRt.out.lt (Nat.le_refl _))
            clear hb10
            go_wp2_with fail
            go_at_call 21
            refine (pick_any HR10.out (by omega) 3 (by omega)).mono ?_
            rintro e11 w11 ⟨x11, rfl, hx11a, hx11b, _, hr11, hp11⟩
            have HR11 := hid (show Rd w11 b (r + 3) from hr11.le (by omega))
            have HX11 := hid (HX10.out.trans hp11)
            clear hr11 hp11 hx11b
            obtain ⟨k0, k1x⟩ := HD.out.cells _ HX11.out
            by_cases h11 : x11 = 0
            · subst h11
              have hb1 : (⟨#[98]⟩ : ByteArray).size = 1 := rfl
              go_wp2_with fail
              go_at_call 11
              refine (HIH.out .bit _ _ _ _ _ _ _ _ _ _ _ _ (bit_txt) (by rw [hb1]; omega) (HD.out.scope _ HX11.out) HR11.out (by rw [HM.out]; omega) (by omega) (by omega)).mono ?_
              rintro e12 w12 ⟨s12, rfl, hs12, hr12, hp12⟩
              have hz12 : s12.size ≤ M := by rw [← HM.out]; exact hs12
              have HR12 := hid (show Rd w12 b (r + 3 + M) from by have h := hr12; rw [HM.out] at h; exact h.le (by omega))
              have HX12 := hid ((HX11).out.trans hp12)
              have t12_0 : ¬ 9223372036854775807 < 5 + s12.size := by omega
              have t12_1 : ¬ 9223372036854775807 < 5 + s12.size + 1 := by omega
              clear hr12 hp12 hs12
              go_wp2_with fail
              go_at_call 25
              refine (rof_any (HR12.out.alloc _) (by omega) w12.heap.size 2 2 (M + 6) _ (lit2 rfl) (by omega) (by omega) (by have := HR12.out.lt; omega) ?_).mono ?_
              · intro y hy
                simp only [List.mem_cons, List.mem_nil_iff, or_false] at hy
                rcases hy with rfl | rfl
                · show 5 ≤ M + 6; omega
                · simp only [ByteArray.size_append, bsz]; simp; omega
              rintro e13 w13 ⟨s13, rfl, hs13, hr13, hp13⟩
              have HR13 := hid hr13
              have HX13 := hid ((HX12.out.alloc _).trans hp13)
              clear hr13 hp13
              go_wp2_with fail
              go_ret
              exact ⟨_, rfl, by omega, (HR13.out.le (by omega)), HD.out.px.trans HX13.out⟩
            · have h11b : (x11 == 0) = false := beq_eq_false_iff_ne.2 h11
              go_wp2_with fail
              go_at_call 21
              refine (pick_any HR11.out (by omega) 3 (by omega)).mono ?_
              rintro e12 w12 ⟨x12, rfl, hx12a, hx12b, _, hr12, hp12⟩
              have HR12 := hid (show Rd w12 b (r + 3 + 1) from hr12.le (by omega))
              have HX12 := hid (HX11.out.trans hp12)
              clear hr12 hp12 hx12b
              obtain ⟨k0, k1x⟩ := HD.out.cells _ HX12.out
              by_cases h12 : x12 = 0
              · subst h12
                go_wp2_with fail
                go_at_call 25
                refine (rof_any (HR12.out.alloc _) (by omega) w12.heap.size 2 2 1 zbL (zbL_lit rfl) (by omega) (by omega) (by have := HR12.out.lt; omega) zbL_small).mono ?_
                rintro e13 w13 ⟨s13, rfl, hs13, hr13, hp13⟩
                have HR13 := hid hr13
                have HX13 := hid ((HX12.out.alloc _).trans hp13)
                have hz13 : s13.size ≤ 1 := hs13
                clear hr13 hp13 hs13
                go_wp2_with fail
                go_ret
                exact ⟨_, rfl, by omega, (HR13.out.le (by omega)), HD.out.px.trans HX13.out⟩
              · have h12b : (x12 == 0) = false := beq_eq_false_iff_ne.2 h12
                go_wp2_with fail
                go_at_call 11
                refine (HI0.out .bit _ _ _ _ _ _ _ _ _ _ _ _ (HWT.out.symm) (by omega) (HD.out.scope _ HX12.out) HR12.out (by rw [show mE 0 = 1000 from rfl]; omega) (by omega) (by rfl)).mono ?_
                rintro e13 w13 ⟨s13, rfl, hs13, hr13, hp13⟩
                have hz13 : s13.size ≤ 1000 := hs13
                have HR13 := hid (show Rd w13 b (r + 3 + 1 + 1000) from hr13.le (by rw [show mE 0 = 1000 from rfl]; omega))
                have HX13 := hid (HX12.out.trans hp13)
                clear hr13 hp13 hs13
                go_wp2_with fail
                go_ret
                exact ⟨_, rfl, by omega, (HR13.out.le (by omega)), HD.out.px.trans HX13.out⟩
          | fn a c =>
            have HW3 := hid (fn_tsz a c)
            rw [HWT.out] at HW3
            have hw3 := HW3.out
            obtain ⟨tb, cap, A, hA, hcap, hs0, hs1, tq, tx, ty⟩ := tin3 (HD.out.tree W2 (Px.refl _ _))
            obtain ⟨rfl, rfl, rfl, rfl⟩ : a1 = ByteArray.empty ∧ p1 = some ⟨tb, 0, none⟩ ∧ l1 = 3 ∧ c1 = cap := by simpa using hA
            have htb : tb ≠ b := rd_ne1 HR2.out (hs0 0 (by decide))
            have HKK := hid (fun W (hx : Px b W2 W) => (show W.cell? ⟨w.heap.size, 0, none⟩ = some (.slice p n c0) ∧ W.cell? ⟨w.heap.size, 1, none⟩ = some (.slice q n e) ∧ W.cell? ⟨w1.heap.size, 1, none⟩ = some (.slice (some ⟨tb, 0, none⟩) 3 c1) ∧ W.cell? ⟨tb, 2, none⟩ = some (.string (A 1).a) ∧ W.cell? ⟨tb, 3, none⟩ = some (.slice (A 1).p (A 1).l (A 1).c) ∧ W.cell? ⟨tb, 4, none⟩ = some (.string (A 2).a) ∧ W.cell? ⟨tb, 5, none⟩ = some (.slice (A 2).p (A 2).l (A 2).c) from by
              have hc0 := HD.out.cells W hx
              have hc1 := (HD.out.tcell W hx).2
              rw [HZW.out] at hc1
              exact ⟨hc0.1, hc0.2, hc1, hx.cell htb (hs0 1 (by decide)), hx.cell htb (hs1 1 (by decide)), hx.cell htb (hs0 2 (by decide)), hx.cell htb (hs1 2 (by decide))⟩))
            have haz : a.tree.txt.size ≤ 100 := by omega
            have hcz : c.tree.txt.size ≤ 100 := by omega
            have HT1 := hid (fun W (hx : Px b W2 W) => (show Calls Tryd.prog 26 #[.agg #[.string (A 1).a, .slice (A 1).p (A 1).l (A 1).c]] W fun e w' => e = .returned (.string a.tree.txt) ∧ Below W.heap.size W w' from l1Text_any (tx.keep (fun k hk hl => hx.block k hl hk) (fun _ hk _ => hk)) (by have := txt_size a.tree; omega) (parse_wt (parse_sty a haz)) W (Kept.refl _) (Nat.le_refl _)))
            have HT2 := hid (fun W (hx : Px b W2 W) => (show Calls Tryd.prog 26 #[.agg #[.string (A 2).a, .slice (A 2).p (A 2).l (A 2).c]] W fun e w' => e = .returned (.string c.tree.txt) ∧ Below W.heap.size W w' from l1Text_any (ty.keep (fun k hk hl => hx.block k hl hk) (fun _ hk _ => hk)) (by have := txt_size c.tree; omega) (parse_wt (parse_sty c hcz)) W (Kept.refl _) (Nat.le_refl _)))
            have HHD := hid (fun W (hx : Px b W2 W) => (show Calls Tryd.prog 24 #[.agg #[.string ByteArray.empty, .slice (some ⟨tb, 0, none⟩) 3 c1]] W fun e w' => e = .returned (.string ⟨#[62]⟩) ∧ Below W.heap.size W w' from l1Head_any (HD.out.tree W hx) W (Kept.refl _)))
            obtain ⟨KA, hKA⟩ : ∃ K, a.tree.txt = K := ⟨_, rfl⟩
            obtain ⟨KC, hKC⟩ : ∃ K, c.tree.txt = K := ⟨_, rfl⟩
            have HKA := hid hKA
            have HKC := hid hKC
            rw [hKA] at HT1 haz hw3
            rw [hKC] at HT2 hcz hw3
            clear hKA hKC hs0 hs1 tq tx ty hA hcap HW3
            go_wp2_with fail
            go_at_call 24
            refine (HHD.out _ HXt.out).mono ?_
            rintro e10 w10 ⟨rfl, hb10⟩
            have HX10 := hid (HXt.out.trans (Px.below hb10 (Nat.le_refl _)))
            have HR10 := hid (HRt.out.below hb10 HRt.out.lt (Nat.le_refl _))
            clear hb10
            go_wp2_with fail
            go_at_call 25
            refine (rof_any (HR10.out.alloc _) (by omega) w10.heap.size 4 4 2 lmL (lmL_lit rfl) (by omega) (by omega) (by have := HR10.out.lt; omega) lmL_small).mono ?_
            rintro e11 w11 ⟨s11, rfl, hs11, hr11, hp11⟩
            have HR11 := hid (show Rd w11 b (r + 3) from hr11)
            have HX11 := hid ((HX10.out.alloc _).trans hp11)
            have hz11 : s11.size ≤ 2 := hs11
            clear hr11 hp11 hs11
            obtain ⟨g0, g1, g2, g3, g4, g5, g6⟩ := HKK.out _ HX11.out
            go_wp2_with fail
            go_at_call 26
            refine (HT1.out _ HX11.out).mono ?_
            rintro e12 w12 ⟨rfl, hb12⟩
            have HX12 := hid (HX11.out.trans (Px.below hb12 (Nat.le_refl _)))
            have HR12 := hid (HR11.out.below hb12 HR11.out.lt (Nat.le_refl _))
            clear hb12 g0 g1 g2 g3 g4 g5 g6
            obtain ⟨g0, g1, g2, g3, g4, g5, g6⟩ := HKK.out _ HX12.out
            have HX12d := hid (HX12.out.trans (px_drewM b w12))
            have HR12d := hid HR12.out.drew
            have v_0 : ¬ 9223372036854775807 < 5 + s11.size := by omega
            have v_1 : ¬ 9223372036854775807 < 5 + s11.size + 1 := by omega
            have v_2 : ¬ 9223372036854775807 < 5 + s11.size + 1 + KA.size := by omega
            have v_3 : ¬ 9223372036854775807 < 5 + s11.size + 1 + KA.size + 1 := by omega
            go_wp2_with fail
            go_region_held3 (fun w' => w'.cell? ⟨w.heap.size, 0, none⟩ = some (.slice p n c0) ∧ w'.cell? ⟨w.heap.size, 1, none⟩ = some (.slice q n e) ∧ w'.cell? ⟨w1.heap.size, 1, none⟩ = some (.slice (some ⟨tb, 0, none⟩) 3 c1) ∧ w'.cell? ⟨tb, 2, none⟩ = some (.string (A 1).a) ∧ w'.cell? ⟨tb, 3, none⟩ = some (.slice (A 1).p (A 1).l (A 1).c) ∧ w'.cell? ⟨tb, 4, none⟩ = some (.string (A 2).a) ∧ w'.cell? ⟨tb, 5, none⟩ = some (.slice (A 2).p (A 2).l (A 2).c))
              (first | exact HKK.out _ HX12d.out | exact HKK.out _ HX13.out | exact HKK.out _ HX14.out | exact HKK.out _ HX15.out)
              (first
                | (have _ := HX14
                   go_at_call 11
                   refine (HIH.out c _ _ _ _ _ _ _ _ _ _ _ _ (HKC.out.symm) (by omega) (HM14.out _ (Px.refl _ _)) HR14.out (by rw [HM.out]; omega) (by omega) (by omega)).mono ?_
                   rintro e15 w15 ⟨s15, rfl, hs15, hr15, hp15⟩
                   have hz15 : s15.size ≤ M := by rw [← HM.out]; exact hs15
                   have HR15 := hid (show Rd w15 b (r + 3 + M) from by have h := hr15; rw [HM.out] at h; exact h.le (by omega))
                   have HX15 := hid ((HX14).out.trans hp15)
                   have t15_0 : ¬ 9223372036854775807 < 5 + s11.size := by omega
                   have t15_1 : ¬ 9223372036854775807 < 5 + s11.size + 1 := by omega
                   have t15_2 : ¬ 9223372036854775807 < 5 + s11.size + 1 + KA.size := by omega
                   have t15_3 : ¬ 9223372036854775807 < 5 + s11.size + 1 + KA.size + 1 := by omega
                   have t15_4 : ¬ 9223372036854775807 < 5 + s11.size + 1 + KA.size + 1 + s15.size := by omega
                   have t15_5 : ¬ 9223372036854775807 < 5 + s11.size + 1 + KA.size + 1 + s15.size + 1 := by omega
                   clear hr15 hp15 hs15)
                | (have _ := HX13
                   go_at_call 26
                   refine (HT2.out _ HX13.out).mono ?_
                   rintro e14 w14 ⟨rfl, hb14⟩
                   have HX14 := hid (HX13.out.trans (Px.below hb14 (Nat.le_refl _)))
                   have HR14 := hid (HR13.out.below hb14 HR13.out.lt (Nat.le_refl _))
                   have HM14 := hid (fun W (hx : Px b w14 W) => HM13.out W ((Px.below hb14 (Nat.le_refl _)).trans hx))
                   clear hb14)
                | (go_at_call 27
                   refine (more_at (wB := W2) (wC := W2) HD.out.scope (by omega) (C := fun _ => True) (fun _ _ _ _ _ _ => trivial) s11 KA (Nat.le_trans hz11 (by decide)) w12.drew _ HR12d.out HX12d.out HX12d.out trivial).mono ?_
                   rintro e13 w13 ⟨p13, q13, c13, d13, rfl, hm13, hr13, hp13, _⟩
                   have HM13 := hid hm13
                   have HR13 := hid hr13
                   have HX13 := hid hp13
                   clear hm13 hr13 hp13))
            all_goals
              go_wp2_with fail
              go_ret
              refine ⟨_, rfl, ?_, (HR15.out.le (by omega)), HD.out.px.trans HX15.out⟩
              simp only [ByteArray.size_append, bsz]; simp; omega
          | pair a c =>
            have HW3 := hid (pr_tsz a c)
            rw [HWT.out] at HW3
            have hw3 := HW3.out
            obtain ⟨tb, cap, A, hA, hcap, hs0, hs1, tq, tx, ty⟩ := tin3 (HD.out.tree W2 (Px.refl _ _))
            obtain ⟨rfl, rfl, rfl, rfl⟩ : a1 = ByteArray.empty ∧ p1 = some ⟨tb, 0, none⟩ ∧ l1 = 3 ∧ c1 = cap := by simpa using hA
            have htb : tb ≠ b := rd_ne1 HR2.out (hs0 0 (by decide))
            have HKK := hid (fun W (hx : Px b W2 W) => (show W.cell? ⟨w.heap.size, 0, none⟩ = some (.slice p n c0) ∧ W.cell? ⟨w.heap.size, 1, none⟩ = some (.slice q n e) ∧ W.cell? ⟨w1.heap.size, 1, none⟩ = some (.slice (some ⟨tb, 0, none⟩) 3 c1) ∧ W.cell? ⟨tb, 2, none⟩ = some (.string (A 1).a) ∧ W.cell? ⟨tb, 3, none⟩ = some (.slice (A 1).p (A 1).l (A 1).c) ∧ W.cell? ⟨tb, 4, none⟩ = some (.string (A 2).a) ∧ W.cell? ⟨tb, 5, none⟩ = some (.slice (A 2).p (A 2).l (A 2).c) from by
              have hc0 := HD.out.cells W hx
              have hc1 := (HD.out.tcell W hx).2
              rw [HZW.out] at hc1
              exact ⟨hc0.1, hc0.2, hc1, hx.cell htb (hs0 1 (by decide)), hx.cell htb (hs1 1 (by decide)), hx.cell htb (hs0 2 (by decide)), hx.cell htb (hs1 2 (by decide))⟩))
            have haz : a.tree.txt.size ≤ 100 := by omega
            have hcz : c.tree.txt.size ≤ 100 := by omega
            have HT1 := hid (fun W (hx : Px b W2 W) => (show Calls Tryd.prog 26 #[.agg #[.string (A 1).a, .slice (A 1).p (A 1).l (A 1).c]] W fun e w' => e = .returned (.string a.tree.txt) ∧ Below W.heap.size W w' from l1Text_any (tx.keep (fun k hk hl => hx.block k hl hk) (fun _ hk _ => hk)) (by have := txt_size a.tree; omega) (parse_wt (parse_sty a haz)) W (Kept.refl _) (Nat.le_refl _)))
            have HT2 := hid (fun W (hx : Px b W2 W) => (show Calls Tryd.prog 26 #[.agg #[.string (A 2).a, .slice (A 2).p (A 2).l (A 2).c]] W fun e w' => e = .returned (.string c.tree.txt) ∧ Below W.heap.size W w' from l1Text_any (ty.keep (fun k hk hl => hx.block k hl hk) (fun _ hk _ => hk)) (by have := txt_size c.tree; omega) (parse_wt (parse_sty c hcz)) W (Kept.refl _) (Nat.le_refl _)))
            have HHD := hid (fun W (hx : Px b W2 W) => (show Calls Tryd.prog 24 #[.agg #[.string ByteArray.empty, .slice (some ⟨tb, 0, none⟩) 3 c1]] W fun e w' => e = .returned (.string ⟨#[42]⟩) ∧ Below W.heap.size W w' from l1Head_any (HD.out.tree W hx) W (Kept.refl _)))
            obtain ⟨KA, hKA⟩ : ∃ K, a.tree.txt = K := ⟨_, rfl⟩
            obtain ⟨KC, hKC⟩ : ∃ K, c.tree.txt = K := ⟨_, rfl⟩
            have HKA := hid hKA
            have HKC := hid hKC
            rw [hKA] at HT1 haz hw3
            rw [hKC] at HT2 hcz hw3
            clear hKA hKC hs0 hs1 tq tx ty hA hcap HW3
            go_wp2_with fail
            go_at_call 24
            refine (HHD.out _ HXt.out).mono ?_
            rintro e10 w10 ⟨rfl, hb10⟩
            have HX10 := hid (HXt.out.trans (Px.below hb10 (Nat.le_refl _)))
            have HR10 := hid (HRt.out.below hb10 HRt.out.lt (Nat.le_refl _))
            clear hb10
            obtain ⟨g0, g1, g2, g3, g4, g5, g6⟩ := HKK.out _ HX10.out
            have HX10d := hid (HX10.out.trans (px_drewM b w10))
            have HR10d := hid HR10.out.drew
            go_wp2_with fail
            go_region_held3 (fun w' => w'.cell? ⟨w.heap.size, 0, none⟩ = some (.slice p n c0) ∧ w'.cell? ⟨w.heap.size, 1, none⟩ = some (.slice q n e) ∧ w'.cell? ⟨w1.heap.size, 1, none⟩ = some (.slice (some ⟨tb, 0, none⟩) 3 c1) ∧ w'.cell? ⟨tb, 2, none⟩ = some (.string (A 1).a) ∧ w'.cell? ⟨tb, 3, none⟩ = some (.slice (A 1).p (A 1).l (A 1).c) ∧ w'.cell? ⟨tb, 4, none⟩ = some (.string (A 2).a) ∧ w'.cell? ⟨tb, 5, none⟩ = some (.slice (A 2).p (A 2).l (A 2).c))
              (first | exact HKK.out _ HX10d.out | exact HKK.out _ HX11.out | exact HKK.out _ HX12.out | exact HKK.out _ HX13.out | exact HKK.out _ HX14.out)
              (first
                | (have _ := HX13
                   go_at_call 11
                   refine (HIH.out c _ _ _ _ _ _ _ _ _ _ _ _ (HKC.out.symm) (by omega) (HD.out.scope _ HX13.out) HR13.out (by rw [HM.out]; omega) (by omega) (by omega)).mono ?_
                   rintro e14 w14 ⟨s14, rfl, hs14, hr14, hp14⟩
                   have hz14 : s14.size ≤ M := by rw [← HM.out]; exact hs14
                   have HR14 := hid (show Rd w14 b (r + 2 + M + M) from by have h := hr14; rw [HM.out] at h; exact h.le (by omega))
                   have HX14 := hid ((HX13).out.trans hp14)
                   have t14_0 : ¬ 9223372036854775807 < 6 + s12.size := by omega
                   have t14_1 : ¬ 9223372036854775807 < 6 + s12.size + 1 := by omega
                   have t14_2 : ¬ 9223372036854775807 < 6 + s12.size + 1 + s14.size := by omega
                   have t14_3 : ¬ 9223372036854775807 < 6 + s12.size + 1 + s14.size + 1 := by omega
                   clear hr14 hp14 hs14)
                | (have _ := HX12
                   go_at_call 26
                   refine (HT2.out _ HX12.out).mono ?_
                   rintro e13 w13 ⟨rfl, hb13⟩
                   have HX13 := hid (HX12.out.trans (Px.below hb13 (Nat.le_refl _)))
                   have HR13 := hid (HR12.out.below hb13 HR12.out.lt (Nat.le_refl _))
                   clear hb13)
                | (have _ := HX11
                   go_at_call 11
                   refine (HIH.out a _ _ _ _ _ _ _ _ _ _ _ _ (HKA.out.symm) (by omega) (HD.out.scope _ HX11.out) HR11.out (by rw [HM.out]; omega) (by omega) (by omega)).mono ?_
                   rintro e12 w12 ⟨s12, rfl, hs12, hr12, hp12⟩
                   have hz12 : s12.size ≤ M := by rw [← HM.out]; exact hs12
                   have HR12 := hid (show Rd w12 b (r + 2 + M) from by have h := hr12; rw [HM.out] at h; exact h.le (by omega))
                   have HX12 := hid ((HX11).out.trans hp12)
                   have t12_0 : ¬ 9223372036854775807 < 6 + s12.size := by omega
                   have t12_1 : ¬ 9223372036854775807 < 6 + s12.size + 1 := by omega
                   clear hr12 hp12 hs12)
                | (go_at_call 26
                   refine (HT1.out _ HX10d.out).mono ?_
                   rintro e11 w11 ⟨rfl, hb11⟩
                   have HX11 := hid (HX10d.out.trans (Px.below hb11 (Nat.le_refl _)))
                   have HR11 := hid (HR10d.out.below hb11 HR10d.out.lt (Nat.le_refl _))
                   clear hb11))
            all_goals
              go_wp2_with fail
              go_ret
              refine ⟨_, rfl, ?_, (HR14.out.le (by omega)), HD.out.px.trans HX14.out⟩
              simp only [ByteArray.size_append, bsz]; simp; omega
    · have n0 : (x4 == 0) = false := beq_eq_false_iff_ne.2 (by omega)
      have n1 : (x4 == 1) = false := beq_eq_false_iff_ne.2 (by omega)
      have n2 : (x4 == 2) = false := beq_eq_false_iff_ne.2 (by omega)
      have n3 : (x4 == 3) = false := beq_eq_false_iff_ne.2 (by omega)
      have n4 : (x4 == 4) = false := beq_eq_false_iff_ne.2 (by omega)
      have n5 : (x4 == 5) = false := beq_eq_false_iff_ne.2 (by omega)
      have HRt := hid (HR4.out.le (show r + 1 ≤ r + 2 by omega))
      have HXt := HX4
      cases ef with
      | false =>
        cases s with
        | bit =>
          have HHD := hid (fun W (hx : Px b W2 W) => (show Calls Tryd.prog 24 #[.agg #[.string a1, .slice p1 l1 c1]] W fun e w' => e = .returned (.string ByteArray.empty) ∧ Below W.heap.size W w' from l1Head_any (HD.out.tree W hx) W (Kept.refl _)))
          go_wp2_with fail
          go_at_call 24
          refine (HHD.out _ HXt.out).mono ?_
          rintro e10 w10 ⟨rfl, hb10⟩
          have HX10 := hid (HXt.out.trans (Px.below hb10 (Nat.le_refl _)))
          have HR10 := hid (HRt.out.below hb10 HRt.out.lt (Nat.le_refl _))
          clear hb10
          go_wp2_with fail
          go_at_call 21
          refine (pick_any HR10.out (by omega) 3 (by omega)).mono ?_
          rintro e11 w11 ⟨x11, rfl, hx11a, hx11b, _, hr11, hp11⟩
          have HR11 := hid (show Rd w11 b (r + 2 + 1) from hr11.le (by omega))
          have HX11 := hid (HX10.out.trans hp11)
          clear hr11 hp11 hx11b
          obtain ⟨k0, k1x⟩ := HD.out.cells _ HX11.out
          by_cases h11 : x11 = 0
          · subst h11
            go_wp2_with fail
            go_at_call 25
            refine (rof_any (HR11.out.alloc _) (by omega) w11.heap.size 2 2 1 zbL (zbL_lit rfl) (by omega) (by omega) (by have := HR11.out.lt; omega) zbL_small).mono ?_
            rintro e12 w12 ⟨s12, rfl, hs12, hr12, hp12⟩
            have HR12 := hid hr12
            have HX12 := hid ((HX11.out.alloc _).trans hp12)
            have hz12 : s12.size ≤ 1 := hs12
            clear hr12 hp12 hs12
            go_wp2_with fail
            go_ret
            exact ⟨_, rfl, by omega, (HR12.out.le (by omega)), HD.out.px.trans HX12.out⟩
          · have h11b : (x11 == 0) = false := beq_eq_false_iff_ne.2 h11
            go_wp2_with fail
            go_at_call 11
            refine (HI0.out .bit _ _ _ _ _ _ _ _ _ _ _ _ (HWT.out.symm) (by omega) (HD.out.scope _ HX11.out) HR11.out (by rw [show mE 0 = 1000 from rfl]; omega) (by omega) (by rfl)).mono ?_
            rintro e12 w12 ⟨s12, rfl, hs12, hr12, hp12⟩
            have hz12 : s12.size ≤ 1000 := hs12
            have HR12 := hid (show Rd w12 b (r + 2 + 1 + 1000) from hr12.le (by rw [show mE 0 = 1000 from rfl]; omega))
            have HX12 := hid (HX11.out.trans hp12)
            clear hr12 hp12 hs12
            go_wp2_with fail
            go_ret
            exact ⟨_, rfl, by omega, (HR12.out.le (by omega)), HD.out.px.trans HX12.out⟩
        | fn a c =>
          have HW3 := hid (fn_tsz a c)
          rw [HWT.out] at HW3
          have hw3 := HW3.out
          obtain ⟨tb, cap, A, hA, hcap, hs0, hs1, tq, tx, ty⟩ := tin3 (HD.out.tree W2 (Px.refl _ _))
          obtain ⟨rfl, rfl, rfl, rfl⟩ : a1 = ByteArray.empty ∧ p1 = some ⟨tb, 0, none⟩ ∧ l1 = 3 ∧ c1 = cap := by simpa using hA
          have htb : tb ≠ b := rd_ne1 HR2.out (hs0 0 (by decide))
          have HKK := hid (fun W (hx : Px b W2 W) => (show W.cell? ⟨w.heap.size, 0, none⟩ = some (.slice p n c0) ∧ W.cell? ⟨w.heap.size, 1, none⟩ = some (.slice q n e) ∧ W.cell? ⟨w1.heap.size, 1, none⟩ = some (.slice (some ⟨tb, 0, none⟩) 3 c1) ∧ W.cell? ⟨tb, 2, none⟩ = some (.string (A 1).a) ∧ W.cell? ⟨tb, 3, none⟩ = some (.slice (A 1).p (A 1).l (A 1).c) ∧ W.cell? ⟨tb, 4, none⟩ = some (.string (A 2).a) ∧ W.cell? ⟨tb, 5, none⟩ = some (.slice (A 2).p (A 2).l (A 2).c) from by
            have hc0 := HD.out.cells W hx
            have hc1 := (HD.out.tcell W hx).2
            rw [HZW.out] at hc1
            exact ⟨hc0.1, hc0.2, hc1, hx.cell htb (hs0 1 (by decide)), hx.cell htb (hs1 1 (by decide)), hx.cell htb (hs0 2 (by decide)), hx.cell htb (hs1 2 (by decide))⟩))
          have haz : a.tree.txt.size ≤ 100 := by omega
          have hcz : c.tree.txt.size ≤ 100 := by omega
          have HT1 := hid (fun W (hx : Px b W2 W) => (show Calls Tryd.prog 26 #[.agg #[.string (A 1).a, .slice (A 1).p (A 1).l (A 1).c]] W fun e w' => e = .returned (.string a.tree.txt) ∧ Below W.heap.size W w' from l1Text_any (tx.keep (fun k hk hl => hx.block k hl hk) (fun _ hk _ => hk)) (by have := txt_size a.tree; omega) (parse_wt (parse_sty a haz)) W (Kept.refl _) (Nat.le_refl _)))
          have HT2 := hid (fun W (hx : Px b W2 W) => (show Calls Tryd.prog 26 #[.agg #[.string (A 2).a, .slice (A 2).p (A 2).l (A 2).c]] W fun e w' => e = .returned (.string c.tree.txt) ∧ Below W.heap.size W w' from l1Text_any (ty.keep (fun k hk hl => hx.block k hl hk) (fun _ hk _ => hk)) (by have := txt_size c.tree; omega) (parse_wt (parse_sty c hcz)) W (Kept.refl _) (Nat.le_refl _)))
          have HHD := hid (fun W (hx : Px b W2 W) => (show Calls Tryd.prog 24 #[.agg #[.string ByteArray.empty, .slice (some ⟨tb, 0, none⟩) 3 c1]] W fun e w' => e = .returned (.string ⟨#[62]⟩) ∧ Below W.heap.size W w' from l1Head_any (HD.out.tree W hx) W (Kept.refl _)))
          obtain ⟨KA, hKA⟩ : ∃ K, a.tree.txt = K := ⟨_, rfl⟩
          obtain ⟨KC, hKC⟩ : ∃ K, c.tree.txt = K := ⟨_, rfl⟩
          have HKA := hid hKA
          have HKC := hid hKC
          rw [hKA] at HT1 haz hw3
          rw [hKC] at HT2 hcz hw3
          clear hKA hKC hs0 hs1 tq tx ty hA hcap HW3
          go_wp2_with fail
          go_at_call 24
          refine (HHD.out _ HXt.out).mono ?_
          rintro e10 w10 ⟨rfl, hb10⟩
          have HX10 := hid (HXt.out.trans (Px.below hb10 (Nat.le_refl _)))
          have HR10 := hid (HRt.out.below hb10 HRt.out.lt (Nat.le_refl _))
          clear hb10
          go_wp2_with fail
          go_at_call 25
          refine (rof_any (HR10.out.alloc _) (by omega) w10.heap.size 4 4 2 lmL (lmL_lit rfl) (by omega) (by omega) (by have := HR10.out.lt; omega) lmL_small).mono ?_
          rintro e11 w11 ⟨s11, rfl, hs11, hr11, hp11⟩
          have HR11 := hid (show Rd w11 b (r + 3) from hr11)
          have HX11 := hid ((HX10.out.alloc _).trans hp11)
          have hz11 : s11.size ≤ 2 := hs11
          clear hr11 hp11 hs11
          obtain ⟨g0, g1, g2, g3, g4, g5, g6⟩ := HKK.out _ HX11.out
          go_wp2_with fail
          go_at_call 26
          refine (HT1.out _ HX11.out).mono ?_
          rintro e12 w12 ⟨rfl, hb12⟩
          have HX12 := hid (HX11.out.trans (Px.below hb12 (Nat.le_refl _)))
          have HR12 := hid (HR11.out.below hb12 HR11.out.lt (Nat.le_refl _))
          clear hb12 g0 g1 g2 g3 g4 g5 g6
          obtain ⟨g0, g1, g2, g3, g4, g5, g6⟩ := HKK.out _ HX12.out
          have HX12d := hid (HX12.out.trans (px_drewM b w12))
          have HR12d := hid HR12.out.drew
          have v_0 : ¬ 9223372036854775807 < 5 + s11.size := by omega
          have v_1 : ¬ 9223372036854775807 < 5 + s11.size + 1 := by omega
          have v_2 : ¬ 9223372036854775807 < 5 + s11.size + 1 + KA.size := by omega
          have v_3 : ¬ 9223372036854775807 < 5 + s11.size + 1 + KA.size + 1 := by omega
          go_wp2_with fail
          go_region_held3 (fun w' => w'.cell? ⟨w.heap.size, 0, none⟩ = some (.slice p n c0) ∧ w'.cell? ⟨w.heap.size, 1, none⟩ = some (.slice q n e) ∧ w'.cell? ⟨w1.heap.size, 1, none⟩ = some (.slice (some ⟨tb, 0, none⟩) 3 c1) ∧ w'.cell? ⟨tb, 2, none⟩ = some (.string (A 1).a) ∧ w'.cell? ⟨tb, 3, none⟩ = some (.slice (A 1).p (A 1).l (A 1).c) ∧ w'.cell? ⟨tb, 4, none⟩ = some (.string (A 2).a) ∧ w'.cell? ⟨tb, 5, none⟩ = some (.slice (A 2).p (A 2).l (A 2).c))
            (first | exact HKK.out _ HX12d.out | exact HKK.out _ HX13.out | exact HKK.out _ HX14.out | exact HKK.out _ HX15.out)
            (first
              | (have _ := HX14
                 go_at_call 11
                 refine (HIH.out c _ _ _ _ _ _ _ _ _ _ _ _ (HKC.out.symm) (by omega) (HM14.out _ (Px.refl _ _)) HR14.out (by rw [HM.out]; omega) (by omega) (by omega)).mono ?_
                 rintro e15 w15 ⟨s15, rfl, hs15, hr15, hp15⟩
                 have hz15 : s15.size ≤ M := by rw [← HM.out]; exact hs15
                 have HR15 := hid (show Rd w15 b (r + 3 + M) from by have h := hr15; rw [HM.out] at h; exact h.le (by omega))
                 have HX15 := hid ((HX14).out.trans hp15)
                 have t15_0 : ¬ 9223372036854775807 < 5 + s11.size := by omega
                 have t15_1 : ¬ 9223372036854775807 < 5 + s11.size + 1 := by omega
                 have t15_2 : ¬ 9223372036854775807 < 5 + s11.size + 1 + KA.size := by omega
                 have t15_3 : ¬ 9223372036854775807 < 5 + s11.size + 1 + KA.size + 1 := by omega
                 have t15_4 : ¬ 9223372036854775807 < 5 + s11.size + 1 + KA.size + 1 + s15.size := by omega
                 have t15_5 : ¬ 9223372036854775807 < 5 + s11.size + 1 + KA.size + 1 + s15.size + 1 := by omega
                 clear hr15 hp15 hs15)
              | (have _ := HX13
                 go_at_call 26
                 refine (HT2.out _ HX13.out).mono ?_
                 rintro e14 w14 ⟨rfl, hb14⟩
                 have HX14 := hid (HX13.out.trans (Px.below hb14 (Nat.le_refl _)))
                 have HR14 := hid (HR13.out.below hb14 HR13.out.lt (Nat.le_refl _))
                 have HM14 := hid (fun W (hx : Px b w14 W) => HM13.out W ((Px.below hb14 (Nat.le_refl _)).trans hx))
                 clear hb14)
              | (go_at_call 27
                 refine (more_at (wB := W2) (wC := W2) HD.out.scope (by omega) (C := fun _ => True) (fun _ _ _ _ _ _ => trivial) s11 KA (Nat.le_trans hz11 (by decide)) w12.drew _ HR12d.out HX12d.out HX12d.out trivial).mono ?_
                 rintro e13 w13 ⟨p13, q13, c13, d13, rfl, hm13, hr13, hp13, _⟩
                 have HM13 := hid hm13
                 have HR13 := hid hr13
                 have HX13 := hid hp13
                 clear hm13 hr13 hp13))
          all_goals
            go_wp2_with fail
            go_ret
            refine ⟨_, rfl, ?_, (HR15.out.le (by omega)), HD.out.px.trans HX15.out⟩
            simp only [ByteArray.size_append, bsz]; simp; omega
        | pair a c =>
          have HW3 := hid (pr_tsz a c)
          rw [HWT.out] at HW3
          have hw3 := HW3.out
          obtain ⟨tb, cap, A, hA, hcap, hs0, hs1, tq, tx, ty⟩ := tin3 (HD.out.tree W2 (Px.refl _ _))
          obtain ⟨rfl, rfl, rfl, rfl⟩ : a1 = ByteArray.empty ∧ p1 = some ⟨tb, 0, none⟩ ∧ l1 = 3 ∧ c1 = cap := by simpa using hA
          have htb : tb ≠ b := rd_ne1 HR2.out (hs0 0 (by decide))
          have HKK := hid (fun W (hx : Px b W2 W) => (show W.cell? ⟨w.heap.size, 0, none⟩ = some (.slice p n c0) ∧ W.cell? ⟨w.heap.size, 1, none⟩ = some (.slice q n e) ∧ W.cell? ⟨w1.heap.size, 1, none⟩ = some (.slice (some ⟨tb, 0, none⟩) 3 c1) ∧ W.cell? ⟨tb, 2, none⟩ = some (.string (A 1).a) ∧ W.cell? ⟨tb, 3, none⟩ = some (.slice (A 1).p (A 1).l (A 1).c) ∧ W.cell? ⟨tb, 4, none⟩ = some (.string (A 2).a) ∧ W.cell? ⟨tb, 5, none⟩ = some (.slice (A 2).p (A 2).l (A 2).c) from by
            have hc0 := HD.out.cells W hx
            have hc1 := (HD.out.tcell W hx).2
            rw [HZW.out] at hc1
            exact ⟨hc0.1, hc0.2, hc1, hx.cell htb (hs0 1 (by decide)), hx.cell htb (hs1 1 (by decide)), hx.cell htb (hs0 2 (by decide)), hx.cell htb (hs1 2 (by decide))⟩))
          have haz : a.tree.txt.size ≤ 100 := by omega
          have hcz : c.tree.txt.size ≤ 100 := by omega
          have HT1 := hid (fun W (hx : Px b W2 W) => (show Calls Tryd.prog 26 #[.agg #[.string (A 1).a, .slice (A 1).p (A 1).l (A 1).c]] W fun e w' => e = .returned (.string a.tree.txt) ∧ Below W.heap.size W w' from l1Text_any (tx.keep (fun k hk hl => hx.block k hl hk) (fun _ hk _ => hk)) (by have := txt_size a.tree; omega) (parse_wt (parse_sty a haz)) W (Kept.refl _) (Nat.le_refl _)))
          have HT2 := hid (fun W (hx : Px b W2 W) => (show Calls Tryd.prog 26 #[.agg #[.string (A 2).a, .slice (A 2).p (A 2).l (A 2).c]] W fun e w' => e = .returned (.string c.tree.txt) ∧ Below W.heap.size W w' from l1Text_any (ty.keep (fun k hk hl => hx.block k hl hk) (fun _ hk _ => hk)) (by have := txt_size c.tree; omega) (parse_wt (parse_sty c hcz)) W (Kept.refl _) (Nat.le_refl _)))
          have HHD := hid (fun W (hx : Px b W2 W) => (show Calls Tryd.prog 24 #[.agg #[.string ByteArray.empty, .slice (some ⟨tb, 0, none⟩) 3 c1]] W fun e w' => e = .returned (.string ⟨#[42]⟩) ∧ Below W.heap.size W w' from l1Head_any (HD.out.tree W hx) W (Kept.refl _)))
          obtain ⟨KA, hKA⟩ : ∃ K, a.tree.txt = K := ⟨_, rfl⟩
          obtain ⟨KC, hKC⟩ : ∃ K, c.tree.txt = K := ⟨_, rfl⟩
          have HKA := hid hKA
          have HKC := hid hKC
          rw [hKA] at HT1 haz hw3
          rw [hKC] at HT2 hcz hw3
          clear hKA hKC hs0 hs1 tq tx ty hA hcap HW3
          go_wp2_with fail
          go_at_call 24
          refine (HHD.out _ HXt.out).mono ?_
          rintro e10 w10 ⟨rfl, hb10⟩
          have HX10 := hid (HXt.out.trans (Px.below hb10 (Nat.le_refl _)))
          have HR10 := hid (HRt.out.below hb10 HRt.out.lt (Nat.le_refl _))
          clear hb10
          obtain ⟨g0, g1, g2, g3, g4, g5, g6⟩ := HKK.out _ HX10.out
          have HX10d := hid (HX10.out.trans (px_drewM b w10))
          have HR10d := hid HR10.out.drew
          go_wp2_with fail
          go_region_held3 (fun w' => w'.cell? ⟨w.heap.size, 0, none⟩ = some (.slice p n c0) ∧ w'.cell? ⟨w.heap.size, 1, none⟩ = some (.slice q n e) ∧ w'.cell? ⟨w1.heap.size, 1, none⟩ = some (.slice (some ⟨tb, 0, none⟩) 3 c1) ∧ w'.cell? ⟨tb, 2, none⟩ = some (.string (A 1).a) ∧ w'.cell? ⟨tb, 3, none⟩ = some (.slice (A 1).p (A 1).l (A 1).c) ∧ w'.cell? ⟨tb, 4, none⟩ = some (.string (A 2).a) ∧ w'.cell? ⟨tb, 5, none⟩ = some (.slice (A 2).p (A 2).l (A 2).c))
            (first | exact HKK.out _ HX10d.out | exact HKK.out _ HX11.out | exact HKK.out _ HX12.out | exact HKK.out _ HX13.out | exact HKK.out _ HX14.out)
            (first
              | (have _ := HX13
                 go_at_call 11
                 refine (HIH.out c _ _ _ _ _ _ _ _ _ _ _ _ (HKC.out.symm) (by omega) (HD.out.scope _ HX13.out) HR13.out (by rw [HM.out]; omega) (by omega) (by omega)).mono ?_
                 rintro e14 w14 ⟨s14, rfl, hs14, hr14, hp14⟩
                 have hz14 : s14.size ≤ M := by rw [← HM.out]; exact hs14
                 have HR14 := hid (show Rd w14 b (r + 2 + M + M) from by have h := hr14; rw [HM.out] at h; exact h.le (by omega))
                 have HX14 := hid ((HX13).out.trans hp14)
                 have t14_0 : ¬ 9223372036854775807 < 6 + s12.size := by omega
                 have t14_1 : ¬ 9223372036854775807 < 6 + s12.size + 1 := by omega
                 have t14_2 : ¬ 9223372036854775807 < 6 + s12.size + 1 + s14.size := by omega
                 have t14_3 : ¬ 9223372036854775807 < 6 + s12.size + 1 + s14.size + 1 := by omega
                 clear hr14 hp14 hs14)
              | (have _ := HX12
                 go_at_call 26
                 refine (HT2.out _ HX12.out).mono ?_
                 rintro e13 w13 ⟨rfl, hb13⟩
                 have HX13 := hid (HX12.out.trans (Px.below hb13 (Nat.le_refl _)))
                 have HR13 := hid (HR12.out.below hb13 HR12.out.lt (Nat.le_refl _))
                 clear hb13)
              | (have _ := HX11
                 go_at_call 11
                 refine (HIH.out a _ _ _ _ _ _ _ _ _ _ _ _ (HKA.out.symm) (by omega) (HD.out.scope _ HX11.out) HR11.out (by rw [HM.out]; omega) (by omega) (by omega)).mono ?_
                 rintro e12 w12 ⟨s12, rfl, hs12, hr12, hp12⟩
                 have hz12 : s12.size ≤ M := by rw [← HM.out]; exact hs12
                 have HR12 := hid (show Rd w12 b (r + 2 + M) from by have h := hr12; rw [HM.out] at h; exact h.le (by omega))
                 have HX12 := hid ((HX11).out.trans hp12)
                 have t12_0 : ¬ 9223372036854775807 < 6 + s12.size := by omega
                 have t12_1 : ¬ 9223372036854775807 < 6 + s12.size + 1 := by omega
                 clear hr12 hp12 hs12)
              | (go_at_call 26
                 refine (HT1.out _ HX10d.out).mono ?_
                 rintro e11 w11 ⟨rfl, hb11⟩
                 have HX11 := hid (HX10d.out.trans (Px.below hb11 (Nat.le_refl _)))
                 have HR11 := hid (HR10d.out.below hb11 HR10d.out.lt (Nat.le_refl _))
                 clear hb11))
          all_goals
            go_wp2_with fail
            go_ret
            refine ⟨_, rfl, ?_, (HR14.out.le (by omega)), HD.out.px.trans HX14.out⟩
            simp only [ByteArray.size_append, bsz]; simp; omega
      | true =>
        cases s with
        | bit =>
          have HHD := hid (fun W (hx : Px b W2 W) => (show Calls Tryd.prog 24 #[.agg #[.string a1, .slice p1 l1 c1]] W fun e w' => e = .returned (.string ByteArray.empty) ∧ Below W.heap.size W w' from l1Head_any (HD.out.tree W hx) W (Kept.refl _)))
          go_wp2_with fail
          go_at_call 24
          refine (HHD.out _ HXt.out).mono ?_
          rintro e10 w10 ⟨rfl, hb10⟩
          have HX10 := hid (HXt.out.trans (Px.below hb10 (Nat.le_refl _)))
          have HR10 := hid (HRt.out.below hb10 HRt.out.lt (Nat.le_refl _))
          clear hb10
          go_wp2_with fail
          go_at_call 21
          refine (pick_any HR10.out (by omega) 3 (by omega)).mono ?_
          rintro e11 w11 ⟨x11, rfl, hx11a, hx11b, _, hr11, hp11⟩
          have HR11 := hid (show Rd w11 b (r + 3) from hr11.le (by omega))
          have HX11 := hid (HX10.out.trans hp11)
          clear hr11 hp11 hx11b
          obtain ⟨k0, k1x⟩ := HD.out.cells _ HX11.out
          by_cases h11 : x11 = 0
          · subst h11
            have hb1 : (⟨#[98]⟩ : ByteArray).size = 1 := rfl
            go_wp2_with fail
            go_at_call 11
            refine (HIH.out .bit _ _ _ _ _ _ _ _ _ _ _ _ (bit_txt) (by rw [hb1]; omega) (HD.out.scope _ HX11.out) HR11.out (by rw [HM.out]; omega) (by omega) (by omega)).mono ?_
            rintro e12 w12 ⟨s12, rfl, hs12, hr12, hp12⟩
            have hz12 : s12.size ≤ M := by rw [← HM.out]; exact hs12
            have HR12 := hid (show Rd w12 b (r + 3 + M) from by have h := hr12; rw [HM.out] at h; exact h.le (by omega))
            have HX12 := hid ((HX11).out.trans hp12)
            have t12_0 : ¬ 9223372036854775807 < 5 + s12.size := by omega
            have t12_1 : ¬ 9223372036854775807 < 5 + s12.size + 1 := by omega
            clear hr12 hp12 hs12
            go_wp2_with fail
            go_at_call 25
            refine (rof_any (HR12.out.alloc _) (by omega) w12.heap.size 2 2 (M + 6) _ (lit2 rfl) (by omega) (by omega) (by have := HR12.out.lt; omega) ?_).mono ?_
            · intro y hy
              simp only [List.mem_cons, List.mem_nil_iff, or_false] at hy
              rcases hy with rfl | rfl
              · show 5 ≤ M + 6; omega
              · simp only [ByteArray.size_append, bsz]; simp; omega
            rintro e13 w13 ⟨s13, rfl, hs13, hr13, hp13⟩
            have HR13 := hid hr13
            have HX13 := hid ((HX12.out.alloc _).trans hp13)
            clear hr13 hp13
            go_wp2_with fail
            go_ret
            exact ⟨_, rfl, by omega, (HR13.out.le (by omega)), HD.out.px.trans HX13.out⟩
          · have h11b : (x11 == 0) = false := beq_eq_false_iff_ne.2 h11
            go_wp2_with fail
            go_at_call 21
            refine (pick_any HR11.out (by omega) 3 (by omega)).mono ?_
            rintro e12 w12 ⟨x12, rfl, hx12a, hx12b, _, hr12, hp12⟩
            have HR12 := hid (show Rd w12 b (r + 3 + 1) from hr12.le (by omega))
            have HX12 := hid (HX11.out.trans hp12)
            clear hr12 hp12 hx12b
            obtain ⟨k0, k1x⟩ := HD.out.cells _ HX12.out
            by_cases h12 : x12 = 0
            · subst h12
              go_wp2_with fail
              go_at_call 25
              refine (rof_any (HR12.out.alloc _) (by omega) w12.heap.size 2 2 1 zbL (zbL_lit rfl) (by omega) (by omega) (by have := HR12.out.lt; omega) zbL_small).mono ?_
              rintro e13 w13 ⟨s13, rfl, hs13, hr13, hp13⟩
              have HR13 := hid hr13
              have HX13 := hid ((HX12.out.alloc _).trans hp13)
              have hz13 : s13.size ≤ 1 := hs13
              clear hr13 hp13 hs13
              go_wp2_with fail
              go_ret
              exact ⟨_, rfl, by omega, (HR13.out.le (by omega)), HD.out.px.trans HX13.out⟩
            · have h12b : (x12 == 0) = false := beq_eq_false_iff_ne.2 h12
              go_wp2_with fail
              go_at_call 11
              refine (HI0.out .bit _ _ _ _ _ _ _ _ _ _ _ _ (HWT.out.symm) (by omega) (HD.out.scope _ HX12.out) HR12.out (by rw [show mE 0 = 1000 from rfl]; omega) (by omega) (by rfl)).mono ?_
              rintro e13 w13 ⟨s13, rfl, hs13, hr13, hp13⟩
              have hz13 : s13.size ≤ 1000 := hs13
              have HR13 := hid (show Rd w13 b (r + 3 + 1 + 1000) from hr13.le (by rw [show mE 0 = 1000 from rfl]; omega))
              have HX13 := hid (HX12.out.trans hp13)
              clear hr13 hp13 hs13
              go_wp2_with fail
              go_ret
              exact ⟨_, rfl, by omega, (HR13.out.le (by omega)), HD.out.px.trans HX13.out⟩
        | fn a c =>
          have HW3 := hid (fn_tsz a c)
          rw [HWT.out] at HW3
          have hw3 := HW3.out
          obtain ⟨tb, cap, A, hA, hcap, hs0, hs1, tq, tx, ty⟩ := tin3 (HD.out.tree W2 (Px.refl _ _))
          obtain ⟨rfl, rfl, rfl, rfl⟩ : a1 = ByteArray.empty ∧ p1 = some ⟨tb, 0, none⟩ ∧ l1 = 3 ∧ c1 = cap := by simpa using hA
          have htb : tb ≠ b := rd_ne1 HR2.out (hs0 0 (by decide))
          have HKK := hid (fun W (hx : Px b W2 W) => (show W.cell? ⟨w.heap.size, 0, none⟩ = some (.slice p n c0) ∧ W.cell? ⟨w.heap.size, 1, none⟩ = some (.slice q n e) ∧ W.cell? ⟨w1.heap.size, 1, none⟩ = some (.slice (some ⟨tb, 0, none⟩) 3 c1) ∧ W.cell? ⟨tb, 2, none⟩ = some (.string (A 1).a) ∧ W.cell? ⟨tb, 3, none⟩ = some (.slice (A 1).p (A 1).l (A 1).c) ∧ W.cell? ⟨tb, 4, none⟩ = some (.string (A 2).a) ∧ W.cell? ⟨tb, 5, none⟩ = some (.slice (A 2).p (A 2).l (A 2).c) from by
            have hc0 := HD.out.cells W hx
            have hc1 := (HD.out.tcell W hx).2
            rw [HZW.out] at hc1
            exact ⟨hc0.1, hc0.2, hc1, hx.cell htb (hs0 1 (by decide)), hx.cell htb (hs1 1 (by decide)), hx.cell htb (hs0 2 (by decide)), hx.cell htb (hs1 2 (by decide))⟩))
          have haz : a.tree.txt.size ≤ 100 := by omega
          have hcz : c.tree.txt.size ≤ 100 := by omega
          have HT1 := hid (fun W (hx : Px b W2 W) => (show Calls Tryd.prog 26 #[.agg #[.string (A 1).a, .slice (A 1).p (A 1).l (A 1).c]] W fun e w' => e = .returned (.string a.tree.txt) ∧ Below W.heap.size W w' from l1Text_any (tx.keep (fun k hk hl => hx.block k hl hk) (fun _ hk _ => hk)) (by have := txt_size a.tree; omega) (parse_wt (parse_sty a haz)) W (Kept.refl _) (Nat.le_refl _)))
          have HT2 := hid (fun W (hx : Px b W2 W) => (show Calls Tryd.prog 26 #[.agg #[.string (A 2).a, .slice (A 2).p (A 2).l (A 2).c]] W fun e w' => e = .returned (.string c.tree.txt) ∧ Below W.heap.size W w' from l1Text_any (ty.keep (fun k hk hl => hx.block k hl hk) (fun _ hk _ => hk)) (by have := txt_size c.tree; omega) (parse_wt (parse_sty c hcz)) W (Kept.refl _) (Nat.le_refl _)))
          have HHD := hid (fun W (hx : Px b W2 W) => (show Calls Tryd.prog 24 #[.agg #[.string ByteArray.empty, .slice (some ⟨tb, 0, none⟩) 3 c1]] W fun e w' => e = .returned (.string ⟨#[62]⟩) ∧ Below W.heap.size W w' from l1Head_any (HD.out.tree W hx) W (Kept.refl _)))
          obtain ⟨KA, hKA⟩ : ∃ K, a.tree.txt = K := ⟨_, rfl⟩
          obtain ⟨KC, hKC⟩ : ∃ K, c.tree.txt = K := ⟨_, rfl⟩
          have HKA := hid hKA
          have HKC := hid hKC
          rw [hKA] at HT1 haz hw3
          rw [hKC] at HT2 hcz hw3
          clear hKA hKC hs0 hs1 tq tx ty hA hcap HW3
          go_wp2_with fail
          go_at_call 24
          refine (HHD.out _ HXt.out).mono ?_
          rintro e10 w10 ⟨rfl, hb10⟩
          have HX10 := hid (HXt.out.trans (Px.below hb10 (Nat.le_refl _)))
          have HR10 := hid (HRt.out.below hb10 HRt.out.lt (Nat.le_refl _))
          clear hb10
          go_wp2_with fail
          go_at_call 25
          refine (rof_any (HR10.out.alloc _) (by omega) w10.heap.size 4 4 2 lmL (lmL_lit rfl) (by omega) (by omega) (by have := HR10.out.lt; omega) lmL_small).mono ?_
          rintro e11 w11 ⟨s11, rfl, hs11, hr11, hp11⟩
          have HR11 := hid (show Rd w11 b (r + 3) from hr11)
          have HX11 := hid ((HX10.out.alloc _).trans hp11)
          have hz11 : s11.size ≤ 2 := hs11
          clear hr11 hp11 hs11
          obtain ⟨g0, g1, g2, g3, g4, g5, g6⟩ := HKK.out _ HX11.out
          go_wp2_with fail
          go_at_call 26
          refine (HT1.out _ HX11.out).mono ?_
          rintro e12 w12 ⟨rfl, hb12⟩
          have HX12 := hid (HX11.out.trans (Px.below hb12 (Nat.le_refl _)))
          have HR12 := hid (HR11.out.below hb12 HR11.out.lt (Nat.le_refl _))
          clear hb12 g0 g1 g2 g3 g4 g5 g6
          obtain ⟨g0, g1, g2, g3, g4, g5, g6⟩ := HKK.out _ HX12.out
          have HX12d := hid (HX12.out.trans (px_drewM b w12))
          have HR12d := hid HR12.out.drew
          have v_0 : ¬ 9223372036854775807 < 5 + s11.size := by omega
          have v_1 : ¬ 9223372036854775807 < 5 + s11.size + 1 := by omega
          have v_2 : ¬ 9223372036854775807 < 5 + s11.size + 1 + KA.size := by omega
          have v_3 : ¬ 9223372036854775807 < 5 + s11.size + 1 + KA.size + 1 := by omega
          go_wp2_with fail
          go_region_held3 (fun w' => w'.cell? ⟨w.heap.size, 0, none⟩ = some (.slice p n c0) ∧ w'.cell? ⟨w.heap.size, 1, none⟩ = some (.slice q n e) ∧ w'.cell? ⟨w1.heap.size, 1, none⟩ = some (.slice (some ⟨tb, 0, none⟩) 3 c1) ∧ w'.cell? ⟨tb, 2, none⟩ = some (.string (A 1).a) ∧ w'.cell? ⟨tb, 3, none⟩ = some (.slice (A 1).p (A 1).l (A 1).c) ∧ w'.cell? ⟨tb, 4, none⟩ = some (.string (A 2).a) ∧ w'.cell? ⟨tb, 5, none⟩ = some (.slice (A 2).p (A 2).l (A 2).c))
            (first | exact HKK.out _ HX12d.out | exact HKK.out _ HX13.out | exact HKK.out _ HX14.out | exact HKK.out _ HX15.out)
            (first
              | (have _ := HX14
                 go_at_call 11
                 refine (HIH.out c _ _ _ _ _ _ _ _ _ _ _ _ (HKC.out.symm) (by omega) (HM14.out _ (Px.refl _ _)) HR14.out (by rw [HM.out]; omega) (by omega) (by omega)).mono ?_
                 rintro e15 w15 ⟨s15, rfl, hs15, hr15, hp15⟩
                 have hz15 : s15.size ≤ M := by rw [← HM.out]; exact hs15
                 have HR15 := hid (show Rd w15 b (r + 3 + M) from by have h := hr15; rw [HM.out] at h; exact h.le (by omega))
                 have HX15 := hid ((HX14).out.trans hp15)
                 have t15_0 : ¬ 9223372036854775807 < 5 + s11.size := by omega
                 have t15_1 : ¬ 9223372036854775807 < 5 + s11.size + 1 := by omega
                 have t15_2 : ¬ 9223372036854775807 < 5 + s11.size + 1 + KA.size := by omega
                 have t15_3 : ¬ 9223372036854775807 < 5 + s11.size + 1 + KA.size + 1 := by omega
                 have t15_4 : ¬ 9223372036854775807 < 5 + s11.size + 1 + KA.size + 1 + s15.size := by omega
                 have t15_5 : ¬ 9223372036854775807 < 5 + s11.size + 1 + KA.size + 1 + s15.size + 1 := by omega
                 clear hr15 hp15 hs15)
              | (have _ := HX13
                 go_at_call 26
                 refine (HT2.out _ HX13.out).mono ?_
                 rintro e14 w14 ⟨rfl, hb14⟩
                 have HX14 := hid (HX13.out.trans (Px.below hb14 (Nat.le_refl _)))
                 have HR14 := hid (HR13.out.below hb14 HR13.out.lt (Nat.le_refl _))
                 have HM14 := hid (fun W (hx : Px b w14 W) => HM13.out W ((Px.below hb14 (Nat.le_refl _)).trans hx))
                 clear hb14)
              | (go_at_call 27
                 refine (more_at (wB := W2) (wC := W2) HD.out.scope (by omega) (C := fun _ => True) (fun _ _ _ _ _ _ => trivial) s11 KA (Nat.le_trans hz11 (by decide)) w12.drew _ HR12d.out HX12d.out HX12d.out trivial).mono ?_
                 rintro e13 w13 ⟨p13, q13, c13, d13, rfl, hm13, hr13, hp13, _⟩
                 have HM13 := hid hm13
                 have HR13 := hid hr13
                 have HX13 := hid hp13
                 clear hm13 hr13 hp13))
          all_goals
            go_wp2_with fail
            go_ret
            refine ⟨_, rfl, ?_, (HR15.out.le (by omega)), HD.out.px.trans HX15.out⟩
            simp only [ByteArray.size_append, bsz]; simp; omega
        | pair a c =>
          have HW3 := hid (pr_tsz a c)
          rw [HWT.out] at HW3
          have hw3 := HW3.out
          obtain ⟨tb, cap, A, hA, hcap, hs0, hs1, tq, tx, ty⟩ := tin3 (HD.out.tree W2 (Px.refl _ _))
          obtain ⟨rfl, rfl, rfl, rfl⟩ : a1 = ByteArray.empty ∧ p1 = some ⟨tb, 0, none⟩ ∧ l1 = 3 ∧ c1 = cap := by simpa using hA
          have htb : tb ≠ b := rd_ne1 HR2.out (hs0 0 (by decide))
          have HKK := hid (fun W (hx : Px b W2 W) => (show W.cell? ⟨w.heap.size, 0, none⟩ = some (.slice p n c0) ∧ W.cell? ⟨w.heap.size, 1, none⟩ = some (.slice q n e) ∧ W.cell? ⟨w1.heap.size, 1, none⟩ = some (.slice (some ⟨tb, 0, none⟩) 3 c1) ∧ W.cell? ⟨tb, 2, none⟩ = some (.string (A 1).a) ∧ W.cell? ⟨tb, 3, none⟩ = some (.slice (A 1).p (A 1).l (A 1).c) ∧ W.cell? ⟨tb, 4, none⟩ = some (.string (A 2).a) ∧ W.cell? ⟨tb, 5, none⟩ = some (.slice (A 2).p (A 2).l (A 2).c) from by
            have hc0 := HD.out.cells W hx
            have hc1 := (HD.out.tcell W hx).2
            rw [HZW.out] at hc1
            exact ⟨hc0.1, hc0.2, hc1, hx.cell htb (hs0 1 (by decide)), hx.cell htb (hs1 1 (by decide)), hx.cell htb (hs0 2 (by decide)), hx.cell htb (hs1 2 (by decide))⟩))
          have haz : a.tree.txt.size ≤ 100 := by omega
          have hcz : c.tree.txt.size ≤ 100 := by omega
          have HT1 := hid (fun W (hx : Px b W2 W) => (show Calls Tryd.prog 26 #[.agg #[.string (A 1).a, .slice (A 1).p (A 1).l (A 1).c]] W fun e w' => e = .returned (.string a.tree.txt) ∧ Below W.heap.size W w' from l1Text_any (tx.keep (fun k hk hl => hx.block k hl hk) (fun _ hk _ => hk)) (by have := txt_size a.tree; omega) (parse_wt (parse_sty a haz)) W (Kept.refl _) (Nat.le_refl _)))
          have HT2 := hid (fun W (hx : Px b W2 W) => (show Calls Tryd.prog 26 #[.agg #[.string (A 2).a, .slice (A 2).p (A 2).l (A 2).c]] W fun e w' => e = .returned (.string c.tree.txt) ∧ Below W.heap.size W w' from l1Text_any (ty.keep (fun k hk hl => hx.block k hl hk) (fun _ hk _ => hk)) (by have := txt_size c.tree; omega) (parse_wt (parse_sty c hcz)) W (Kept.refl _) (Nat.le_refl _)))
          have HHD := hid (fun W (hx : Px b W2 W) => (show Calls Tryd.prog 24 #[.agg #[.string ByteArray.empty, .slice (some ⟨tb, 0, none⟩) 3 c1]] W fun e w' => e = .returned (.string ⟨#[42]⟩) ∧ Below W.heap.size W w' from l1Head_any (HD.out.tree W hx) W (Kept.refl _)))
          obtain ⟨KA, hKA⟩ : ∃ K, a.tree.txt = K := ⟨_, rfl⟩
          obtain ⟨KC, hKC⟩ : ∃ K, c.tree.txt = K := ⟨_, rfl⟩
          have HKA := hid hKA
          have HKC := hid hKC
          rw [hKA] at HT1 haz hw3
          rw [hKC] at HT2 hcz hw3
          clear hKA hKC hs0 hs1 tq tx ty hA hcap HW3
          go_wp2_with fail
          go_at_call 24
          refine (HHD.out _ HXt.out).mono ?_
          rintro e10 w10 ⟨rfl, hb10⟩
          have HX10 := hid (HXt.out.trans (Px.below hb10 (Nat.le_refl _)))
          have HR10 := hid (HRt.out.below hb10 HRt.out.lt (Nat.le_refl _))
          clear hb10
          obtain ⟨g0, g1, g2, g3, g4, g5, g6⟩ := HKK.out _ HX10.out
          have HX10d := hid (HX10.out.trans (px_drewM b w10))
          have HR10d := hid HR10.out.drew
          go_wp2_with fail
          go_region_held3 (fun w' => w'.cell? ⟨w.heap.size, 0, none⟩ = some (.slice p n c0) ∧ w'.cell? ⟨w.heap.size, 1, none⟩ = some (.slice q n e) ∧ w'.cell? ⟨w1.heap.size, 1, none⟩ = some (.slice (some ⟨tb, 0, none⟩) 3 c1) ∧ w'.cell? ⟨tb, 2, none⟩ = some (.string (A 1).a) ∧ w'.cell? ⟨tb, 3, none⟩ = some (.slice (A 1).p (A 1).l (A 1).c) ∧ w'.cell? ⟨tb, 4, none⟩ = some (.string (A 2).a) ∧ w'.cell? ⟨tb, 5, none⟩ = some (.slice (A 2).p (A 2).l (A 2).c))
            (first | exact HKK.out _ HX10d.out | exact HKK.out _ HX11.out | exact HKK.out _ HX12.out | exact HKK.out _ HX13.out | exact HKK.out _ HX14.out)
            (first
              | (have _ := HX13
                 go_at_call 11
                 refine (HIH.out c _ _ _ _ _ _ _ _ _ _ _ _ (HKC.out.symm) (by omega) (HD.out.scope _ HX13.out) HR13.out (by rw [HM.out]; omega) (by omega) (by omega)).mono ?_
                 rintro e14 w14 ⟨s14, rfl, hs14, hr14, hp14⟩
                 have hz14 : s14.size ≤ M := by rw [← HM.out]; exact hs14
                 have HR14 := hid (show Rd w14 b (r + 2 + M + M) from by have h := hr14; rw [HM.out] at h; exact h.le (by omega))
                 have HX14 := hid ((HX13).out.trans hp14)
                 have t14_0 : ¬ 9223372036854775807 < 6 + s12.size := by omega
                 have t14_1 : ¬ 9223372036854775807 < 6 + s12.size + 1 := by omega
                 have t14_2 : ¬ 9223372036854775807 < 6 + s12.size + 1 + s14.size := by omega
                 have t14_3 : ¬ 9223372036854775807 < 6 + s12.size + 1 + s14.size + 1 := by omega
                 clear hr14 hp14 hs14)
              | (have _ := HX12
                 go_at_call 26
                 refine (HT2.out _ HX12.out).mono ?_
                 rintro e13 w13 ⟨rfl, hb13⟩
                 have HX13 := hid (HX12.out.trans (Px.below hb13 (Nat.le_refl _)))
                 have HR13 := hid (HR12.out.below hb13 HR12.out.lt (Nat.le_refl _))
                 clear hb13)
              | (have _ := HX11
                 go_at_call 11
                 refine (HIH.out a _ _ _ _ _ _ _ _ _ _ _ _ (HKA.out.symm) (by omega) (HD.out.scope _ HX11.out) HR11.out (by rw [HM.out]; omega) (by omega) (by omega)).mono ?_
                 rintro e12 w12 ⟨s12, rfl, hs12, hr12, hp12⟩
                 have hz12 : s12.size ≤ M := by rw [← HM.out]; exact hs12
                 have HR12 := hid (show Rd w12 b (r + 2 + M) from by have h := hr12; rw [HM.out] at h; exact h.le (by omega))
                 have HX12 := hid ((HX11).out.trans hp12)
                 have t12_0 : ¬ 9223372036854775807 < 6 + s12.size := by omega
                 have t12_1 : ¬ 9223372036854775807 < 6 + s12.size + 1 := by omega
                 clear hr12 hp12 hs12)
              | (go_at_call 26
                 refine (HT1.out _ HX10d.out).mono ?_
                 rintro e11 w11 ⟨rfl, hb11⟩
                 have HX11 := hid (HX10d.out.trans (Px.below hb11 (Nat.le_refl _)))
                 have HR11 := hid (HR10d.out.below hb11 HR10d.out.lt (Nat.le_refl _))
                 clear hb11))
          all_goals
            go_wp2_with fail
            go_ret
            refine ⟨_, rfl, ?_, (HR14.out.le (by omega)), HD.out.px.trans HX14.out⟩
            simp only [ByteArray.size_append, bsz]; simp; omega
end Go.Proofs.YtgogoekfidbpdaaDoor
