/- Merged: ZGSDrwMr, ZGSDrwMf, ZGSDrwMc. -/
import Derived.Test.YtfogjomebcponaaGreatDoorZGc30
namespace Go.Proofs.YtfogjomebcponaaGreatDoor
open Go.RowKit
set_option maxRecDepth 100000
set_option maxHeartbeats 32000000
theorem l91M_ret {b d : Nat} {want : ByteArray} {x : Ty} (hread : readTy want = some (.ret x)) (hM : DrawsM b d) (hV : DrawsV b d) (hS : mC (d + 1) want.size ≤ 400000000) (hd : d ≤ 8) :
    Ter 83 b (d + 1) want (mC (d + 1) want.size) := by
 intro r w p q n c e ns ts j hsc hr hq hn hj
 have HPT := hid (parts_of hM hV (by intro t ht; rw [hread] at ht; simp at ht; subst ht; rfl) hS)
 have hwt := lwt hread
 have hkz : want.size = x.text.size + 4 := by rw [hwt]; exact tx_ret x
 have hKV := hV x.text (by
  rw [mC_succ] at hS
  have h1 : mA d * x.text.size ≤ mA d * want.size := Nat.mul_le_mul_left _ (by omega)
  rw [mV_eq]; omega)
 have HKV := hid (show Ter 114 b d x.text (6 * (mA d * want.size) + 60 * want.size) from hKV.le (by
  rw [mV_eq, hkz]
  have h1 : mA d * (x.text.size + 4) = mA d * x.text.size + 4 * mA d := by rw [Nat.mul_add]; omega
  omega))
 rw [mC_succ] at hS hq ⊢
 obtain ⟨P, hP⟩ : ∃ P, mA d * want.size = P := ⟨_, rfl⟩
 obtain ⟨A, hA⟩ : ∃ A, mA d = A := ⟨_, rfl⟩
 rw [hP, hA] at HPT 
 rw [hP, hA] at hS hq ⊢
 rw [hP] at HKV
 have hwz : want.size ≤ 400000000 := by omega
 have HKD := hid (fun W => (spc want hwz W).mono fun e w' h => lwk h)
 rw [hread] at HKD
 have HKD2 := hid (fun W => (show Calls Tryz.prog 117 #[.string want] W (KdPost [x] 1 true W) from HKD.out W))
 have HHD := hid (fun W => (show Calls Tryz.prog 103 #[.string want] W fun e w' => e = .returned (.string ({ data := #[102] } : ByteArray)) ∧ Below W.heap.size W w' from by have h1 := spe want hwz W; rw [hread] at h1; exact h1))
 obtain ⟨wB, hwB⟩ : ∃ W, (w.alloc (.cells #[.slice p n c, .slice q n e] 114)) = W := ⟨_, rfl⟩
 have HWB := hid hwB
 have HPX := hid (fun (W : World) (hx : Px b wB W) => (show Px b w W from (show Px b w wB from by rw [← hwB]; exact (Px.refl b w).alloc _).trans hx))
 have HSC := hid (fun (W : World) (hx : Px b wB W) => hsc.px hr (HPX.out W hx))
 have HR0 := hid (show Rd wB b r from by rw [← hwB]; exact hr.alloc _)
 have HX0 := hid (Px.refl b wB)
 have HNE := hid (show w.heap.size ≠ b from by have := hr.lt; omega)
 have HK0 := hid (show Cl0 w.heap.size p q n c e wB from by rw [← hwB]; have h := cel (hea w (.cells #[.slice p n c, .slice q n e] 114) _ rfl); exact ⟨h.1, h.2.1⟩)
 subst hj
 have hd1 : (0 : Int) < (d : Int) + 1 := by omega
 have hd2 : ¬ ((d : Int) + 1 ≤ 0) := by omega
 have hd3 : decide ((d : Int) + 1 ≤ 0) = false := decide_eq_false hd2
 clear hread hM hV hwt hsc hr HKD hP hA hkz hwB hKV
 go_enter Tryz.func83, Tryz.ntmps83
 go_wp2_with fail
 rw [HWB.out]
 go_at_call 117
 refine (HKD2.out _).mono ?_
 rintro e w1 ⟨q1, d1, rfl, hv1, hu1, hb1⟩
 obtain ⟨g0, o0, hbo, hc0⟩ := hv1 0 (.string x.text) rfl
 subst hbo
 have hc0 : w1.cell? ⟨g0, o0, none⟩ = some (.string x.text) := hc0
 have HR1 := hid (HR0.out.below hb1 HR0.out.lt (Nat.le_refl _))
 have hp1 : Px b wB w1 := Px.below hb1 (Nat.le_refl _)
 have HX1 := hid hp1
 have hk1 := Cl0.px HNE.out wB w1 _ HR0.out hp1 HK0.out
 have HK1 := hid (show Cl1 w.heap.size p q n c e g0 o0 x.text w1 from ⟨hk1.1, hk1.2, hc0⟩)
 clear hv1 hu1 hb1 hp1 hk1 hc0
 go_wp2_with fail
 go_at_call 103
 refine (HHD.out _).mono ?_
 rintro e w2 ⟨rfl, hb2⟩
 have hp2 : Px b w1 w2 := Px.below hb2 (Nat.le_refl _)
 have HK2 := hid (Cl1.px HNE.out w1 w2 _ HR1.out hp2 HK1.out)
 have HR2 := hid (HR1.out.below hb2 HR1.out.lt (Nat.le_refl _))
 have HX2 := hid (HX1.out.trans hp2)
 clear hb2 hp2
 go_wp2_with fail
 go_at_call 119
 refine (l91Name_any HR2.out (by omega)).mono ?_
 rintro e w3 ⟨s3, rfl, hs3, hr3, hp3⟩
 have hz3 : s3.size ≤ 2 := hs3
 have HK3 := hid (Cl1.px HNE.out w2 w3 _ HR2.out hp3 HK2.out)
 have HR3 := hid hr3
 have HX3 := hid (HX2.out.trans hp3)
 have HS3 := hid hs3
 clear hr3 hp3 hs3
 go_wp2_with fail
 go_at_call 41
 refine (pic HR3.out (by omega) 14 (by omega)).mono ?_
 rintro e w4 ⟨x4, rfl, hx4a, hx4b, _, hr4, hp4⟩
 have hx4c : x4 < 14 := hx4b (by decide)
 have HK4 := hid (Cl1.px HNE.out w3 w4 _ HR3.out hp4 HK3.out)
 have HR4 := hid hr4
 have HX4 := hid (HX3.out.trans hp4)
 clear hr4 hp4 hx4b
 have hcs := cases14 hx4a hx4c
 clear hx4a hx4c
 rcases hcs with rfl | rfl | rfl | rfl | rfl | rfl | rfl | rfl | rfl | rfl | rfl | rfl | rfl | rfl
 iterate 2
  ·go_wp2_with fail
   go_at_call 115
   refine (types1 HR4.out (by omega)).mono ?_
   rintro e w5 ⟨s5, rfl, hs5, hr5, hp5⟩
   have hz5 : s5.size ≤ 23 := hs5
   have t5_0 : ¬ 9223372036854775807 < 3 + s5.size := by omega
   have t5_1 : ¬ 9223372036854775807 < 3 + s5.size + 1 := by omega
   have HK5 := hid (Cl1.px HNE.out w4 w5 _ HR4.out hp5 HK4.out)
   have HR5 := hid hr5
   have HX5 := hid (HX4.out.trans hp5)
   have HS5 := hid hs5
   clear hr5 hp5 hs5
   have HR5d := hid HR5.out.drew
   have HX5d := hid (HX5.out.trans (pxd b w5))
   have HK5d := hid (Cl1.px HNE.out w5 w5.drew _ HR5.out (pxd b w5) HK5.out)
   obtain ⟨ck0, ck1, ck2⟩ := HK5.out
   go_wp2_with fail
   go_region_held3 (fun w' => w'.cell? ⟨w.heap.size, 0, none⟩ = some (.slice p n c) ∧ w'.cell? ⟨w.heap.size, 1, none⟩ = some (.slice q n e) ∧ w'.cell? ⟨g0, o0, none⟩ = some (.string x.text))
    (first | exact HK5d.out | exact HK6.out | exact HK7.out | exact HK8.out)
    (first
      | (have _ := HR7
         go_at_call 83
         refine (Ter.at HPT.out.W HM7.out (by omega) (Cl1.px HNE.out) _ _ _ HR7.out (Px.refl _ _) HK7.out (by omega) (by omega)).mono ?_
         rintro e w8 ⟨s8, rfl, hs8, hr8, hp8, hk8⟩
         have hz8 : s8.size ≤ 400000000 := by omega
         have t8_0 : ¬ 9223372036854775807 < 4 + s6.size + 1 + s3.size + 1 + s8.size := by omega
         have t8_1 : ¬ 9223372036854775807 < 4 + s6.size + 1 + s3.size + 1 + s8.size + 1 := by omega
         have HR8 := hid hr8
         have HX8 := hid (HX7.out.trans hp8)
         have HS8 := hid hs8
         have HK8 := hid hk8
         clear hr8 hp8 hs8 hk8)
      | (have _ := HR6
         go_at_call 120
         refine (mor (wB := wB) HSC.out (by omega) (Cl1.px HNE.out) _ _ (Nat.le_trans HS3.out (by decide)) _ _ HR6.out HX6.out HX6.out HK6.out).mono ?_
         rintro e w7 ⟨p7, q7, c7, d7, rfl, hm7, hr7, hp7, hk7⟩
         have HR7 := hid hr7
         have HX7 := hid hp7
         have HM7 := hid hm7
         have HK7 := hid hk7
         clear hr7 hp7 hm7 hk7)
      | (go_at_call 83
         refine (Ter.at (HPT.out.K _ HS5.out) HSC.out (by omega) (Cl1.px HNE.out) _ _ _ HR5d.out HX5d.out HK5d.out (by omega) (by omega)).mono ?_
         rintro e w6 ⟨s6, rfl, hs6, hr6, hp6, hk6⟩
         have hz6 : s6.size ≤ 400000000 := by omega
         have t6_0 : ¬ 9223372036854775807 < 4 + s6.size := by omega
         have t6_1 : ¬ 9223372036854775807 < 4 + s6.size + 1 := by omega
         have t6_2 : ¬ 9223372036854775807 < 4 + s6.size + 1 + s3.size := by omega
         have t6_3 : ¬ 9223372036854775807 < 4 + s6.size + 1 + s3.size + 1 := by omega
         have HR6 := hid hr6
         have HX6 := hid hp6
         have HS6 := hid hs6
         have HK6 := hid hk6
         clear hr6 hp6 hs6 hk6))
   all_goals
    go_wp2_with fail
    go_ret
    refine ⟨_, rfl, ?_, HR8.out.le (by omega), HPX.out _ HX8.out⟩
    have := HS3.out
    have := HS5.out
    have := HS6.out
    have := HS8.out
    simp only [ByteArray.size_append, bsz]; simp; omega
 ·have HR4d := hid HR4.out.drew
  have HX4d := hid (HX4.out.trans (pxd b w4))
  have HK4d := hid (Cl1.px HNE.out w4 w4.drew _ HR4.out (pxd b w4) HK4.out)
  obtain ⟨ck0, ck1, ck2⟩ := HK4.out
  go_wp2_with fail
  go_region_held3 (fun w' => w'.cell? ⟨w.heap.size, 0, none⟩ = some (.slice p n c) ∧ w'.cell? ⟨w.heap.size, 1, none⟩ = some (.slice q n e) ∧ w'.cell? ⟨g0, o0, none⟩ = some (.string x.text))
   (first | exact HK4d.out | exact HK5.out | exact HK6.out | exact HK7.out)
   (first
     | (have _ := HR6
        go_at_call 83
        refine (Ter.at HPT.out.W HSC.out (by omega) (Cl1.px HNE.out) _ _ _ HR6.out HX6.out HK6.out (by omega) (by omega)).mono ?_
        rintro e w7 ⟨s7, rfl, hs7, hr7, hp7, hk7⟩
        have hz7 : s7.size ≤ 400000000 := by omega
        have t7_0 : ¬ 9223372036854775807 < 4 + s5.size + 1 + s6.size + 1 + s7.size := by omega
        have t7_1 : ¬ 9223372036854775807 < 4 + s5.size + 1 + s6.size + 1 + s7.size + 1 := by omega
        have HR7 := hid hr7
        have HX7 := hid hp7
        have HS7 := hid hs7
        have HK7 := hid hk7
        clear hr7 hp7 hs7 hk7)
     | (have _ := HR5
        go_at_call 83
        refine (Ter.at HPT.out.W HSC.out (by omega) (Cl1.px HNE.out) _ _ _ HR5.out HX5.out HK5.out (by omega) (by omega)).mono ?_
        rintro e w6 ⟨s6, rfl, hs6, hr6, hp6, hk6⟩
        have hz6 : s6.size ≤ 400000000 := by omega
        have t6_0 : ¬ 9223372036854775807 < 4 + s5.size + 1 + s6.size := by omega
        have t6_1 : ¬ 9223372036854775807 < 4 + s5.size + 1 + s6.size + 1 := by omega
        have HR6 := hid hr6
        have HX6 := hid hp6
        have HS6 := hid hs6
        have HK6 := hid hk6
        clear hr6 hp6 hs6 hk6)
     | (go_at_call 114
        refine (Ter.at HPT.out.VB HSC.out (by omega) (Cl1.px HNE.out) _ _ _ HR4d.out HX4d.out HK4d.out (by omega) (by omega)).mono ?_
        rintro e w5 ⟨s5, rfl, hs5, hr5, hp5, hk5⟩
        have hz5 : s5.size ≤ 400000000 := by omega
        have t5_0 : ¬ 9223372036854775807 < 4 + s5.size := by omega
        have t5_1 : ¬ 9223372036854775807 < 4 + s5.size + 1 := by omega
        have HR5 := hid hr5
        have HX5 := hid hp5
        have HS5 := hid hs5
        have HK5 := hid hk5
        clear hr5 hp5 hs5 hk5))
  all_goals
   go_wp2_with fail
   go_ret
   refine ⟨_, rfl, ?_, HR7.out.le (by omega), HPX.out _ HX7.out⟩
   have := HS5.out
   have := HS6.out
   have := HS7.out
   simp only [ByteArray.size_append, bsz]; simp; omega
 ·have t4_0 : ¬ 9223372036854775807 < 5 + s3.size := by omega
  have t4_1 : ¬ 9223372036854775807 < 5 + s3.size + 1 := by omega
  obtain ⟨ck0, ck1, ck2⟩ := HK4.out
  go_wp2_with fail
  go_at_call 120
  refine (mor (wB := wB) HSC.out (by omega) (Cl1.px HNE.out) _ _ (Nat.le_trans HS3.out (by decide)) _ _ HR4.out HX4.out HX4.out HK4.out).mono ?_
  rintro e w5 ⟨p5, q5, c5, d5, rfl, hm5, hr5, hp5, hk5⟩
  have HR5 := hid hr5
  have HX5 := hid hp5
  have HM5 := hid hm5
  have HK5 := hid hk5
  clear hr5 hp5 hm5 hk5
  go_wp2_with fail
  go_at_call 83
  refine (Ter.at HPT.out.W HM5.out (by omega) (Cl1.px HNE.out) _ _ _ HR5.out (Px.refl _ _) HK5.out (by omega) (by omega)).mono ?_
  rintro e w6 ⟨s6, rfl, hs6, hr6, hp6, hk6⟩
  have hz6 : s6.size ≤ 400000000 := by omega
  have t6_0 : ¬ 9223372036854775807 < 5 + s3.size + 1 + s6.size := by omega
  have t6_1 : ¬ 9223372036854775807 < 5 + s3.size + 1 + s6.size + 1 := by omega
  have HR6 := hid hr6
  have HX6 := hid (HX5.out.trans hp6)
  have HS6 := hid hs6
  have HK6 := hid hk6
  clear hr6 hp6 hs6 hk6
  go_wp2_with fail
  go_ret
  refine ⟨_, rfl, ?_, HR6.out.le (by omega), HPX.out _ HX6.out⟩
  have := HS3.out
  have := HS6.out
  simp only [ByteArray.size_append, bsz]; simp; omega
 ·have HR4d := hid HR4.out.drew
  have HX4d := hid (HX4.out.trans (pxd b w4))
  have HK4d := hid (Cl1.px HNE.out w4 w4.drew _ HR4.out (pxd b w4) HK4.out)
  obtain ⟨ck0, ck1, ck2⟩ := HK4.out
  go_wp2_with fail
  go_region_held3 (fun w' => w'.cell? ⟨w.heap.size, 0, none⟩ = some (.slice p n c) ∧ w'.cell? ⟨w.heap.size, 1, none⟩ = some (.slice q n e) ∧ w'.cell? ⟨g0, o0, none⟩ = some (.string x.text))
   (first | exact HK4d.out | exact HK5.out | exact HK6.out)
   (first
     | (have _ := HR5
        go_at_call 83
        refine (Ter.at HPT.out.W HSC.out (by omega) (Cl1.px HNE.out) _ _ _ HR5.out HX5.out HK5.out (by omega) (by omega)).mono ?_
        rintro e w6 ⟨s6, rfl, hs6, hr6, hp6, hk6⟩
        have hz6 : s6.size ≤ 400000000 := by omega
        have t6_0 : ¬ 9223372036854775807 < 5 + s5.size + 1 + s6.size := by omega
        have t6_1 : ¬ 9223372036854775807 < 5 + s5.size + 1 + s6.size + 1 := by omega
        have HR6 := hid hr6
        have HX6 := hid hp6
        have HS6 := hid hs6
        have HK6 := hid hk6
        clear hr6 hp6 hs6 hk6)
     | (go_at_call 114
        refine (Ter.at HPT.out.VB HSC.out (by omega) (Cl1.px HNE.out) _ _ _ HR4d.out HX4d.out HK4d.out (by omega) (by omega)).mono ?_
        rintro e w5 ⟨s5, rfl, hs5, hr5, hp5, hk5⟩
        have hz5 : s5.size ≤ 400000000 := by omega
        have t5_0 : ¬ 9223372036854775807 < 5 + s5.size := by omega
        have t5_1 : ¬ 9223372036854775807 < 5 + s5.size + 1 := by omega
        have HR5 := hid hr5
        have HX5 := hid hp5
        have HS5 := hid hs5
        have HK5 := hid hk5
        clear hr5 hp5 hs5 hk5))
  all_goals
   go_wp2_with fail
   go_ret
   refine ⟨_, rfl, ?_, HR6.out.le (by omega), HPX.out _ HX6.out⟩
   have := HS5.out
   have := HS6.out
   simp only [ByteArray.size_append, bsz]; simp; omega
 ·have t4_0 : ¬ 9223372036854775807 < 5 + want.size := by omega
  have t4_1 : ¬ 9223372036854775807 < 5 + want.size + 1 := by omega
  have HR4d := hid HR4.out.drew
  have HX4d := hid (HX4.out.trans (pxd b w4))
  have HK4d := hid (Cl1.px HNE.out w4 w4.drew _ HR4.out (pxd b w4) HK4.out)
  obtain ⟨ck0, ck1, ck2⟩ := HK4.out
  go_wp2_with fail
  go_region_held3 (fun w' => w'.cell? ⟨w.heap.size, 0, none⟩ = some (.slice p n c) ∧ w'.cell? ⟨w.heap.size, 1, none⟩ = some (.slice q n e) ∧ w'.cell? ⟨g0, o0, none⟩ = some (.string x.text))
   (first | exact HK4d.out | exact HK5.out | exact HK6.out)
   (first
     | (have _ := HR5
        go_at_call 114
        refine (Ter.at HPT.out.VB HSC.out (by omega) (Cl1.px HNE.out) _ _ _ HR5.out HX5.out HK5.out (by omega) (by omega)).mono ?_
        rintro e w6 ⟨s6, rfl, hs6, hr6, hp6, hk6⟩
        have hz6 : s6.size ≤ 400000000 := by omega
        have t6_0 : ¬ 9223372036854775807 < 5 + s5.size + 1 + s6.size := by omega
        have t6_1 : ¬ 9223372036854775807 < 5 + s5.size + 1 + s6.size + 1 := by omega
        have HR6 := hid hr6
        have HX6 := hid hp6
        have HS6 := hid hs6
        have HK6 := hid hk6
        clear hr6 hp6 hs6 hk6)
     | (go_at_call 83
        refine (Ter.at HPT.out.B HSC.out (by omega) (Cl1.px HNE.out) _ _ _ HR4d.out HX4d.out HK4d.out (by omega) (by omega)).mono ?_
        rintro e w5 ⟨s5, rfl, hs5, hr5, hp5, hk5⟩
        have hz5 : s5.size ≤ 400000000 := by omega
        have t5_0 : ¬ 9223372036854775807 < 5 + s5.size := by omega
        have t5_1 : ¬ 9223372036854775807 < 5 + s5.size + 1 := by omega
        have HR5 := hid hr5
        have HX5 := hid hp5
        have HS5 := hid hs5
        have HK5 := hid hk5
        clear hr5 hp5 hs5 hk5))
  all_goals
   go_wp2_with fail
   go_ret
   refine ⟨_, rfl, ?_, HR6.out.le (by omega), HPX.out _ HX6.out⟩
   have := HS5.out
   have := HS6.out
   simp only [ByteArray.size_append, bsz]; simp; omega
 ·obtain ⟨ck0, ck1, ck2⟩ := HK4.out
  go_wp2_with fail
  go_at_call 83
  refine (Ter.at HPT.out.W HSC.out (by omega) (Cl1.px HNE.out) _ _ _ HR4.out HX4.out HK4.out (by omega) (by omega)).mono ?_
  rintro e w5 ⟨s5, rfl, hs5, hr5, hp5, hk5⟩
  have hz5 : s5.size ≤ 400000000 := by omega
  have t5_0 : ¬ 9223372036854775807 < 14 + s5.size := by omega
  have t5_1 : ¬ 9223372036854775807 < 14 + s5.size + 2 := by omega
  have HR5 := hid hr5
  have HX5 := hid hp5
  have HS5 := hid hs5
  have HK5 := hid hk5
  clear hr5 hp5 hs5 hk5
  go_wp2_with fail
  go_ret
  refine ⟨_, rfl, ?_, HR5.out.le (by omega), HPX.out _ HX5.out⟩
  have := HS5.out
  simp only [ByteArray.size_append, bsz]; simp; omega
 ·have HR4d := hid HR4.out.drew
  have HX4d := hid (HX4.out.trans (pxd b w4))
  have HK4d := hid (Cl1.px HNE.out w4 w4.drew _ HR4.out (pxd b w4) HK4.out)
  obtain ⟨ck0, ck1, ck2⟩ := HK4.out
  go_wp2_with fail
  go_region_held3 (fun w' => w'.cell? ⟨w.heap.size, 0, none⟩ = some (.slice p n c) ∧ w'.cell? ⟨w.heap.size, 1, none⟩ = some (.slice q n e) ∧ w'.cell? ⟨g0, o0, none⟩ = some (.string x.text))
   (first | exact HK4d.out | exact HK5.out | exact HK6.out | exact HK7.out | exact HK8.out)
   (first
     | (have _ := HR7
        go_at_call 83
        refine (Ter.at HPT.out.W HM7.out (by omega) (Cl1.px HNE.out) _ _ _ HR7.out (Px.refl _ _) HK7.out (by omega) (by omega)).mono ?_
        rintro e w8 ⟨s8, rfl, hs8, hr8, hp8, hk8⟩
        have hz8 : s8.size ≤ 400000000 := by omega
        have t8_0 : ¬ 9223372036854775807 < 7 + s5.size + 1 + s3.size + 3 + s8.size := by omega
        have t8_1 : ¬ 9223372036854775807 < 7 + s5.size + 1 + s3.size + 3 + s8.size + 1 := by omega
        have HR8 := hid hr8
        have HX8 := hid (HX7.out.trans hp8)
        have HS8 := hid hs8
        have HK8 := hid hk8
        clear hr8 hp8 hs8 hk8)
     | (have _ := HR6
        go_at_call 120
        refine (mor (wB := wB) HM6.out (by omega) (Cl1.px HNE.out) _ _ (by decide) _ _ HR6.out (Px.refl _ _) HX6.out HK6.out).mono ?_
        rintro e w7 ⟨p7, q7, c7, d7, rfl, hm7, hr7, hp7, hk7⟩
        have HR7 := hid hr7
        have HX7 := hid hp7
        have HM7 := hid hm7
        have HK7 := hid hk7
        clear hr7 hp7 hm7 hk7)
     | (have _ := HR5
        go_at_call 120
        refine (mor (wB := wB) HSC.out (by omega) (Cl1.px HNE.out) _ _ (Nat.le_trans HS3.out (by decide)) _ _ HR5.out HX5.out HX5.out HK5.out).mono ?_
        rintro e w6 ⟨p6, q6, c6, d6, rfl, hm6, hr6, hp6, hk6⟩
        have HR6 := hid hr6
        have HX6 := hid hp6
        have HM6 := hid hm6
        have HK6 := hid hk6
        clear hr6 hp6 hm6 hk6)
     | (go_at_call 114
        refine (Ter.at HPT.out.VP HSC.out (by omega) (Cl1.px HNE.out) _ _ _ HR4d.out HX4d.out HK4d.out (by omega) (by omega)).mono ?_
        rintro e w5 ⟨s5, rfl, hs5, hr5, hp5, hk5⟩
        have hz5 : s5.size ≤ 400000000 := by omega
        have t5_0 : ¬ 9223372036854775807 < 7 + s5.size := by omega
        have t5_1 : ¬ 9223372036854775807 < 7 + s5.size + 1 := by omega
        have t5_2 : ¬ 9223372036854775807 < 7 + s5.size + 1 + s3.size := by omega
        have t5_3 : ¬ 9223372036854775807 < 7 + s5.size + 1 + s3.size + 3 := by omega
        have HR5 := hid hr5
        have HX5 := hid hp5
        have HS5 := hid hs5
        have HK5 := hid hk5
        clear hr5 hp5 hs5 hk5))
  all_goals
   go_wp2_with fail
   go_ret
   refine ⟨_, rfl, ?_, HR8.out.le (by omega), HPX.out _ HX8.out⟩
   have := HS3.out
   have := HS5.out
   have := HS8.out
   simp only [ByteArray.size_append, bsz]; simp; omega
 ·have t4_0 : ¬ 9223372036854775807 < 3 + want.size := by omega
  have t4_1 : ¬ 9223372036854775807 < 3 + want.size + 1 := by omega
  have t4_2 : ¬ 9223372036854775807 < 3 + want.size + 1 + want.size := by omega
  have t4_3 : ¬ 9223372036854775807 < 3 + want.size + 1 + want.size + 1 := by omega
  have HR4d := hid HR4.out.drew
  have HX4d := hid (HX4.out.trans (pxd b w4))
  have HK4d := hid (Cl1.px HNE.out w4 w4.drew _ HR4.out (pxd b w4) HK4.out)
  obtain ⟨ck0, ck1, ck2⟩ := HK4.out
  go_wp2_with fail
  go_region_held3 (fun w' => w'.cell? ⟨w.heap.size, 0, none⟩ = some (.slice p n c) ∧ w'.cell? ⟨w.heap.size, 1, none⟩ = some (.slice q n e) ∧ w'.cell? ⟨g0, o0, none⟩ = some (.string x.text))
   (first | exact HK4d.out | exact Cl1.px HNE.out _ _ _ HR4d.out ((Px.refl b _).alloc _) HK4d.out | exact HK5.out | exact HK6.out)
   (first
     | (have _ := HR5
        go_at_call 83
        refine (Ter.at HPT.out.C HSC.out (by omega) (Cl1.px HNE.out) _ _ _ HR5.out HX5.out HK5.out (by omega) (by omega)).mono ?_
        rintro e w6 ⟨s6, rfl, hs6, hr6, hp6, hk6⟩
        have hz6 : s6.size ≤ 400000000 := by omega
        have t6_0 : ¬ 9223372036854775807 < 1 + s5.size + 1 + s6.size := by omega
        have t6_1 : ¬ 9223372036854775807 < 1 + s5.size + 1 + s6.size + 1 := by omega
        have HR6 := hid hr6
        have HX6 := hid hp6
        have HS6 := hid hs6
        have HK6 := hid hk6
        clear hr6 hp6 hs6 hk6)
     | (go_at_call 40
        refine (rof (HR4d.out.alloc _) (by omega) _ 2 2 3 fsL (fsL_lit2 rfl) (by omega) (by omega) (by have := HR4.out.lt; simp; omega) fsL_small).mono ?_
        rintro e w5 ⟨s5, rfl, hs5, hr5, hp5⟩
        have hz5 : s5.size ≤ 400000000 := by omega
        have t5_0 : ¬ 9223372036854775807 < 1 + s5.size := by omega
        have t5_1 : ¬ 9223372036854775807 < 1 + s5.size + 1 := by omega
        have HX5 := hid ((HX4d.out.alloc _).trans hp5)
        have HK5 := hid (Cl1.px HNE.out _ _ _ (HR4d.out.alloc _) hp5 (Cl1.px HNE.out _ _ _ HR4d.out ((Px.refl b _).alloc _) HK4d.out))
        have HR5 := hid hr5
        have HS5 := hid hs5
        clear hr5 hp5 hs5))
  all_goals
   go_wp2_with fail
   go_ret
   refine ⟨_, rfl, ?_, HR6.out.le (by omega), HPX.out _ HX6.out⟩
   have := HS5.out
   have := HS6.out
   simp only [ByteArray.size_append, bsz]; simp; omega
 ·have HR4d := hid HR4.out.drew
  have HX4d := hid (HX4.out.trans (pxd b w4))
  have HK4d := hid (Cl1.px HNE.out w4 w4.drew _ HR4.out (pxd b w4) HK4.out)
  obtain ⟨ck0, ck1, ck2⟩ := HK4.out
  go_wp2_with fail
  go_region_held3 (fun w' => w'.cell? ⟨w.heap.size, 0, none⟩ = some (.slice p n c) ∧ w'.cell? ⟨w.heap.size, 1, none⟩ = some (.slice q n e) ∧ w'.cell? ⟨g0, o0, none⟩ = some (.string x.text))
   (first | exact HK4d.out | exact HK5.out | exact HK6.out)
   (first
     | (have _ := HR5
        go_at_call 83
        refine (Ter.at HPT.out.W HSC.out (by omega) (Cl1.px HNE.out) _ _ _ HR5.out HX5.out HK5.out (by omega) (by omega)).mono ?_
        rintro e w6 ⟨s6, rfl, hs6, hr6, hp6, hk6⟩
        have hz6 : s6.size ≤ 400000000 := by omega
        have t6_0 : ¬ 9223372036854775807 < 5 + s5.size + 1 + s6.size := by omega
        have t6_1 : ¬ 9223372036854775807 < 5 + s5.size + 1 + s6.size + 1 := by omega
        have HR6 := hid hr6
        have HX6 := hid hp6
        have HS6 := hid hs6
        have HK6 := hid hk6
        clear hr6 hp6 hs6 hk6)
     | (go_at_call 83
        refine (Ter.at HPT.out.W HSC.out (by omega) (Cl1.px HNE.out) _ _ _ HR4d.out HX4d.out HK4d.out (by omega) (by omega)).mono ?_
        rintro e w5 ⟨s5, rfl, hs5, hr5, hp5, hk5⟩
        have hz5 : s5.size ≤ 400000000 := by omega
        have t5_0 : ¬ 9223372036854775807 < 5 + s5.size := by omega
        have t5_1 : ¬ 9223372036854775807 < 5 + s5.size + 1 := by omega
        have HR5 := hid hr5
        have HX5 := hid hp5
        have HS5 := hid hs5
        have HK5 := hid hk5
        clear hr5 hp5 hs5 hk5))
  all_goals
   go_wp2_with fail
   go_ret
   refine ⟨_, rfl, ?_, HR6.out.le (by omega), HPX.out _ HX6.out⟩
   have := HS5.out
   have := HS6.out
   simp only [ByteArray.size_append, bsz]; simp; omega
 ·go_wp2_with fail
  go_at_call 41
  refine (pic HR4.out (by omega) 3 (by omega)).mono ?_
  rintro e w5 ⟨x5, rfl, hx5a, hx5b, _, hr5, hp5⟩
  have HK5 := hid (Cl1.px HNE.out w4 w5 _ HR4.out hp5 HK4.out)
  have HR5 := hid hr5
  have HX5 := hid (HX4.out.trans hp5)
  clear hr5 hp5 hx5b
  by_cases hz : x5 = 0
  ·subst hz
   go_wp2_with fail
   go_ret
   refine ⟨_, rfl, ?_, HR5.out.le (by omega), HPX.out _ HX5.out⟩
   simp only [ByteArray.size_append, bsz]; simp; omega
  ·have hzf : (x5 == 0) = false := beq_eq_false_iff_ne.2 hz
   clear hz
   have HR5d := hid HR5.out.drew
   have HX5d := hid (HX5.out.trans (pxd b w5))
   have HK5d := hid (Cl1.px HNE.out w5 w5.drew _ HR5.out (pxd b w5) HK5.out)
   obtain ⟨ck0, ck1, ck2⟩ := HK5.out
   go_wp2_with fail
   go_region_held3 (fun w' => w'.cell? ⟨w.heap.size, 0, none⟩ = some (.slice p n c) ∧ w'.cell? ⟨w.heap.size, 1, none⟩ = some (.slice q n e) ∧ w'.cell? ⟨g0, o0, none⟩ = some (.string x.text))
    (first | exact HK5d.out | exact HK6.out)
    (first
      | (go_at_call 114
         refine (Ter.at HKV.out HSC.out (by omega) (Cl1.px HNE.out) _ _ _ HR5d.out HX5d.out HK5d.out (by omega) (by omega)).mono ?_
         rintro e w6 ⟨s6, rfl, hs6, hr6, hp6, hk6⟩
         have hz6 : s6.size ≤ 400000000 := by omega
         have t6_0 : ¬ 9223372036854775807 < 8 + s6.size := by omega
         have t6_1 : ¬ 9223372036854775807 < 8 + s6.size + 1 := by omega
         have HR6 := hid hr6
         have HX6 := hid hp6
         have HS6 := hid hs6
         have HK6 := hid hk6
         clear hr6 hp6 hs6 hk6))
   all_goals
    go_wp2_with fail
    go_ret
    refine ⟨_, rfl, ?_, HR6.out.le (by omega), HPX.out _ HX6.out⟩
    have := HS6.out
    simp only [ByteArray.size_append, bsz]; simp; omega
 ·have HR4d := hid HR4.out.drew
  have HX4d := hid (HX4.out.trans (pxd b w4))
  have HK4d := hid (Cl1.px HNE.out w4 w4.drew _ HR4.out (pxd b w4) HK4.out)
  obtain ⟨ck0, ck1, ck2⟩ := HK4.out
  go_wp2_with fail
  go_region_held3 (fun w' => w'.cell? ⟨w.heap.size, 0, none⟩ = some (.slice p n c) ∧ w'.cell? ⟨w.heap.size, 1, none⟩ = some (.slice q n e) ∧ w'.cell? ⟨g0, o0, none⟩ = some (.string x.text))
   (first | exact HK4d.out | exact HK5.out)
   (first
     | (go_at_call 114
        refine (Ter.at HKV.out HSC.out (by omega) (Cl1.px HNE.out) _ _ _ HR4d.out HX4d.out HK4d.out (by omega) (by omega)).mono ?_
        rintro e w5 ⟨s5, rfl, hs5, hr5, hp5, hk5⟩
        have hz5 : s5.size ≤ 400000000 := by omega
        have t5_0 : ¬ 9223372036854775807 < 8 + s5.size := by omega
        have t5_1 : ¬ 9223372036854775807 < 8 + s5.size + 1 := by omega
        have HR5 := hid hr5
        have HX5 := hid hp5
        have HS5 := hid hs5
        have HK5 := hid hk5
        clear hr5 hp5 hs5 hk5))
  all_goals
   go_wp2_with fail
   go_ret
   refine ⟨_, rfl, ?_, HR5.out.le (by omega), HPX.out _ HX5.out⟩
   have := HS5.out
   simp only [ByteArray.size_append, bsz]; simp; omega
 ·have HR4d := hid HR4.out.drew
  have HX4d := hid (HX4.out.trans (pxd b w4))
  have HK4d := hid (Cl1.px HNE.out w4 w4.drew _ HR4.out (pxd b w4) HK4.out)
  obtain ⟨ck0, ck1, ck2⟩ := HK4.out
  go_wp2_with fail
  go_region_held3 (fun w' => w'.cell? ⟨w.heap.size, 0, none⟩ = some (.slice p n c) ∧ w'.cell? ⟨w.heap.size, 1, none⟩ = some (.slice q n e) ∧ w'.cell? ⟨g0, o0, none⟩ = some (.string x.text))
   (first | exact HK4d.out | exact HK5.out)
   (first
     | (go_at_call 114
        refine (Ter.at HKV.out HSC.out (by omega) (Cl1.px HNE.out) _ _ _ HR4d.out HX4d.out HK4d.out (by omega) (by omega)).mono ?_
        rintro e w5 ⟨s5, rfl, hs5, hr5, hp5, hk5⟩
        have hz5 : s5.size ≤ 400000000 := by omega
        have t5_0 : ¬ 9223372036854775807 < 8 + s5.size := by omega
        have t5_1 : ¬ 9223372036854775807 < 8 + s5.size + 1 := by omega
        have HR5 := hid hr5
        have HX5 := hid hp5
        have HS5 := hid hs5
        have HK5 := hid hk5
        clear hr5 hp5 hs5 hk5))
  all_goals
   go_wp2_with fail
   go_ret
   refine ⟨_, rfl, ?_, HR5.out.le (by omega), HPX.out _ HX5.out⟩
   have := HS5.out
   simp only [ByteArray.size_append, bsz]; simp; omega
 ·have HR4d := hid HR4.out.drew
  have HX4d := hid (HX4.out.trans (pxd b w4))
  have HK4d := hid (Cl1.px HNE.out w4 w4.drew _ HR4.out (pxd b w4) HK4.out)
  obtain ⟨ck0, ck1, ck2⟩ := HK4.out
  go_wp2_with fail
  go_region_held3 (fun w' => w'.cell? ⟨w.heap.size, 0, none⟩ = some (.slice p n c) ∧ w'.cell? ⟨w.heap.size, 1, none⟩ = some (.slice q n e) ∧ w'.cell? ⟨g0, o0, none⟩ = some (.string x.text))
   (first | exact HK4d.out | exact HK5.out)
   (first
     | (go_at_call 114
        refine (Ter.at HKV.out HSC.out (by omega) (Cl1.px HNE.out) _ _ _ HR4d.out HX4d.out HK4d.out (by omega) (by omega)).mono ?_
        rintro e w5 ⟨s5, rfl, hs5, hr5, hp5, hk5⟩
        have hz5 : s5.size ≤ 400000000 := by omega
        have t5_0 : ¬ 9223372036854775807 < 8 + s5.size := by omega
        have t5_1 : ¬ 9223372036854775807 < 8 + s5.size + 1 := by omega
        have HR5 := hid hr5
        have HX5 := hid hp5
        have HS5 := hid hs5
        have HK5 := hid hk5
        clear hr5 hp5 hs5 hk5))
  all_goals
   go_wp2_with fail
   go_ret
   refine ⟨_, rfl, ?_, HR5.out.le (by omega), HPX.out _ HX5.out⟩
   have := HS5.out
   simp only [ByteArray.size_append, bsz]; simp; omega
theorem l91M_fn {b d : Nat} {want : ByteArray} {x y : Ty} (hread : readTy want = some (.fn x y)) (hM : DrawsM b d) (hV : DrawsV b d) (hS : mC (d + 1) want.size ≤ 400000000) (hd : d ≤ 8) :
    Ter 83 b (d + 1) want (mC (d + 1) want.size) := by
 intro r w p q n c e ns ts j hsc hr hq hn hj
 have HPT := hid (parts_of hM hV (by intro t ht; rw [hread] at ht; simp at ht; subst ht; rfl) hS)
 have hwt := lwt hread
 have hkz : want.size = x.text.size + y.text.size + 5 := by rw [hwt]; exact tx_fn x y
 have hkM := hM y.text (wantC_kid hread (i := 1) rfl (wf_fn hread)) (by
  rw [mC_succ] at hS
  have h1 : mA d * y.text.size ≤ mA d * want.size := Nat.mul_le_mul_left _ (by omega)
  rw [mC_eq]; omega)
 have HKM := hid (show Ter 83 b d y.text (mA d * want.size + 30 * mA d) from hkM.le (by
  have h1 : mA d * y.text.size ≤ mA d * want.size := Nat.mul_le_mul_left _ (by omega)
  rw [mC_eq]; omega))
 have hxs : x.text.size + 5 ≤ want.size := by omega
 rw [mC_succ] at hS hq ⊢
 obtain ⟨P, hP⟩ : ∃ P, mA d * want.size = P := ⟨_, rfl⟩
 obtain ⟨A, hA⟩ : ∃ A, mA d = A := ⟨_, rfl⟩
 rw [hP, hA] at HPT HKM
 rw [hP, hA] at hS hq ⊢
 have hwz : want.size ≤ 400000000 := by omega
 have HKD := hid (fun W => (spc want hwz W).mono fun e w' h => lwk h)
 rw [hread] at HKD
 have HKD2 := hid (fun W => (show Calls Tryz.prog 117 #[.string want] W (KdPost [x, y] 2 true W) from HKD.out W))
 have HHD := hid (fun W => (show Calls Tryz.prog 103 #[.string want] W fun e w' => e = .returned (.string ({ data := #[62] } : ByteArray)) ∧ Below W.heap.size W w' from by have h1 := spe want hwz W; rw [hread] at h1; exact h1))
 obtain ⟨wB, hwB⟩ : ∃ W, (w.alloc (.cells #[.slice p n c, .slice q n e] 114)) = W := ⟨_, rfl⟩
 have HWB := hid hwB
 have HPX := hid (fun (W : World) (hx : Px b wB W) => (show Px b w W from (show Px b w wB from by rw [← hwB]; exact (Px.refl b w).alloc _).trans hx))
 have HSC := hid (fun (W : World) (hx : Px b wB W) => hsc.px hr (HPX.out W hx))
 have HR0 := hid (show Rd wB b r from by rw [← hwB]; exact hr.alloc _)
 have HX0 := hid (Px.refl b wB)
 have HNE := hid (show w.heap.size ≠ b from by have := hr.lt; omega)
 have HK0 := hid (show Cl0 w.heap.size p q n c e wB from by rw [← hwB]; have h := cel (hea w (.cells #[.slice p n c, .slice q n e] 114) _ rfl); exact ⟨h.1, h.2.1⟩)
 subst hj
 have hd1 : (0 : Int) < (d : Int) + 1 := by omega
 have hd2 : ¬ ((d : Int) + 1 ≤ 0) := by omega
 have hd3 : decide ((d : Int) + 1 ≤ 0) = false := decide_eq_false hd2
 clear hread hM hV hwt hsc hr HKD hP hA hkz hwB hkM
 go_enter Tryz.func83, Tryz.ntmps83
 go_wp2_with fail
 rw [HWB.out]
 go_at_call 117
 refine (HKD2.out _).mono ?_
 rintro e w1 ⟨q1, d1, rfl, hv1, hu1, hb1⟩
 obtain ⟨g0, o0, hbo, hc0⟩ := hv1 0 (.string x.text) rfl
 subst hbo
 have hc0 : w1.cell? ⟨g0, o0, none⟩ = some (.string x.text) := hc0
 obtain ⟨g1, o1, hbo1, hc1⟩ := hv1 1 (.string y.text) rfl
 obtain ⟨rfl, rfl⟩ : g0 = g1 ∧ o0 = o1 := by simpa using hbo1
 clear hbo1
 have HR1 := hid (HR0.out.below hb1 HR0.out.lt (Nat.le_refl _))
 have hp1 : Px b wB w1 := Px.below hb1 (Nat.le_refl _)
 have HX1 := hid hp1
 have hk1 := Cl0.px HNE.out wB w1 _ HR0.out hp1 HK0.out
 have HK1 := hid (show Cl2 w.heap.size p q n c e g0 o0 x.text y.text w1 from ⟨hk1.1, hk1.2, hc0, hc1⟩)
 clear hv1 hu1 hb1 hp1 hk1 hc0 hc1
 go_wp2_with fail
 go_at_call 103
 refine (HHD.out _).mono ?_
 rintro e w2 ⟨rfl, hb2⟩
 have hp2 : Px b w1 w2 := Px.below hb2 (Nat.le_refl _)
 have HK2 := hid (Cl2.px HNE.out w1 w2 _ HR1.out hp2 HK1.out)
 have HR2 := hid (HR1.out.below hb2 HR1.out.lt (Nat.le_refl _))
 have HX2 := hid (HX1.out.trans hp2)
 clear hb2 hp2
 go_wp2_with fail
 go_at_call 119
 refine (l91Name_any HR2.out (by omega)).mono ?_
 rintro e w3 ⟨s3, rfl, hs3, hr3, hp3⟩
 have hz3 : s3.size ≤ 2 := hs3
 have HK3 := hid (Cl2.px HNE.out w2 w3 _ HR2.out hp3 HK2.out)
 have HR3 := hid hr3
 have HX3 := hid (HX2.out.trans hp3)
 have HS3 := hid hs3
 clear hr3 hp3 hs3
 go_wp2_with fail
 go_at_call 41
 refine (pic HR3.out (by omega) 14 (by omega)).mono ?_
 rintro e w4 ⟨x4, rfl, hx4a, hx4b, _, hr4, hp4⟩
 have hx4c : x4 < 14 := hx4b (by decide)
 have HK4 := hid (Cl2.px HNE.out w3 w4 _ HR3.out hp4 HK3.out)
 have HR4 := hid hr4
 have HX4 := hid (HX3.out.trans hp4)
 clear hr4 hp4 hx4b
 have hcs := cases14 hx4a hx4c
 clear hx4a hx4c
 rcases hcs with rfl | rfl | rfl | rfl | rfl | rfl | rfl | rfl | rfl | rfl | rfl | rfl | rfl | rfl
 iterate 2
  ·go_wp2_with fail
   go_at_call 115
   refine (types1 HR4.out (by omega)).mono ?_
   rintro e w5 ⟨s5, rfl, hs5, hr5, hp5⟩
   have hz5 : s5.size ≤ 23 := hs5
   have t5_0 : ¬ 9223372036854775807 < 3 + s5.size := by omega
   have t5_1 : ¬ 9223372036854775807 < 3 + s5.size + 1 := by omega
   have HK5 := hid (Cl2.px HNE.out w4 w5 _ HR4.out hp5 HK4.out)
   have HR5 := hid hr5
   have HX5 := hid (HX4.out.trans hp5)
   have HS5 := hid hs5
   clear hr5 hp5 hs5
   have HR5d := hid HR5.out.drew
   have HX5d := hid (HX5.out.trans (pxd b w5))
   have HK5d := hid (Cl2.px HNE.out w5 w5.drew _ HR5.out (pxd b w5) HK5.out)
   obtain ⟨ck0, ck1, ck2, ck3⟩ := HK5.out
   go_wp2_with fail
   go_region_held3 (fun w' => w'.cell? ⟨w.heap.size, 0, none⟩ = some (.slice p n c) ∧ w'.cell? ⟨w.heap.size, 1, none⟩ = some (.slice q n e) ∧ w'.cell? ⟨g0, o0, none⟩ = some (.string x.text) ∧ w'.cell? ⟨g0, o0 + 1, none⟩ = some (.string y.text))
    (first | exact HK5d.out | exact HK6.out | exact HK7.out | exact HK8.out)
    (first
      | (have _ := HR7
         go_at_call 83
         refine (Ter.at HPT.out.W HM7.out (by omega) (Cl2.px HNE.out) _ _ _ HR7.out (Px.refl _ _) HK7.out (by omega) (by omega)).mono ?_
         rintro e w8 ⟨s8, rfl, hs8, hr8, hp8, hk8⟩
         have hz8 : s8.size ≤ 400000000 := by omega
         have t8_0 : ¬ 9223372036854775807 < 4 + s6.size + 1 + s3.size + 1 + s8.size := by omega
         have t8_1 : ¬ 9223372036854775807 < 4 + s6.size + 1 + s3.size + 1 + s8.size + 1 := by omega
         have HR8 := hid hr8
         have HX8 := hid (HX7.out.trans hp8)
         have HS8 := hid hs8
         have HK8 := hid hk8
         clear hr8 hp8 hs8 hk8)
      | (have _ := HR6
         go_at_call 120
         refine (mor (wB := wB) HSC.out (by omega) (Cl2.px HNE.out) _ _ (Nat.le_trans HS3.out (by decide)) _ _ HR6.out HX6.out HX6.out HK6.out).mono ?_
         rintro e w7 ⟨p7, q7, c7, d7, rfl, hm7, hr7, hp7, hk7⟩
         have HR7 := hid hr7
         have HX7 := hid hp7
         have HM7 := hid hm7
         have HK7 := hid hk7
         clear hr7 hp7 hm7 hk7)
      | (go_at_call 83
         refine (Ter.at (HPT.out.K _ HS5.out) HSC.out (by omega) (Cl2.px HNE.out) _ _ _ HR5d.out HX5d.out HK5d.out (by omega) (by omega)).mono ?_
         rintro e w6 ⟨s6, rfl, hs6, hr6, hp6, hk6⟩
         have hz6 : s6.size ≤ 400000000 := by omega
         have t6_0 : ¬ 9223372036854775807 < 4 + s6.size := by omega
         have t6_1 : ¬ 9223372036854775807 < 4 + s6.size + 1 := by omega
         have t6_2 : ¬ 9223372036854775807 < 4 + s6.size + 1 + s3.size := by omega
         have t6_3 : ¬ 9223372036854775807 < 4 + s6.size + 1 + s3.size + 1 := by omega
         have HR6 := hid hr6
         have HX6 := hid hp6
         have HS6 := hid hs6
         have HK6 := hid hk6
         clear hr6 hp6 hs6 hk6))
   all_goals
    go_wp2_with fail
    go_ret
    refine ⟨_, rfl, ?_, HR8.out.le (by omega), HPX.out _ HX8.out⟩
    have := HS3.out
    have := HS5.out
    have := HS6.out
    have := HS8.out
    simp only [ByteArray.size_append, bsz]; simp; omega
 ·have HR4d := hid HR4.out.drew
  have HX4d := hid (HX4.out.trans (pxd b w4))
  have HK4d := hid (Cl2.px HNE.out w4 w4.drew _ HR4.out (pxd b w4) HK4.out)
  obtain ⟨ck0, ck1, ck2, ck3⟩ := HK4.out
  go_wp2_with fail
  go_region_held3 (fun w' => w'.cell? ⟨w.heap.size, 0, none⟩ = some (.slice p n c) ∧ w'.cell? ⟨w.heap.size, 1, none⟩ = some (.slice q n e) ∧ w'.cell? ⟨g0, o0, none⟩ = some (.string x.text) ∧ w'.cell? ⟨g0, o0 + 1, none⟩ = some (.string y.text))
   (first | exact HK4d.out | exact HK5.out | exact HK6.out | exact HK7.out)
   (first
     | (have _ := HR6
        go_at_call 83
        refine (Ter.at HPT.out.W HSC.out (by omega) (Cl2.px HNE.out) _ _ _ HR6.out HX6.out HK6.out (by omega) (by omega)).mono ?_
        rintro e w7 ⟨s7, rfl, hs7, hr7, hp7, hk7⟩
        have hz7 : s7.size ≤ 400000000 := by omega
        have t7_0 : ¬ 9223372036854775807 < 4 + s5.size + 1 + s6.size + 1 + s7.size := by omega
        have t7_1 : ¬ 9223372036854775807 < 4 + s5.size + 1 + s6.size + 1 + s7.size + 1 := by omega
        have HR7 := hid hr7
        have HX7 := hid hp7
        have HS7 := hid hs7
        have HK7 := hid hk7
        clear hr7 hp7 hs7 hk7)
     | (have _ := HR5
        go_at_call 83
        refine (Ter.at HPT.out.W HSC.out (by omega) (Cl2.px HNE.out) _ _ _ HR5.out HX5.out HK5.out (by omega) (by omega)).mono ?_
        rintro e w6 ⟨s6, rfl, hs6, hr6, hp6, hk6⟩
        have hz6 : s6.size ≤ 400000000 := by omega
        have t6_0 : ¬ 9223372036854775807 < 4 + s5.size + 1 + s6.size := by omega
        have t6_1 : ¬ 9223372036854775807 < 4 + s5.size + 1 + s6.size + 1 := by omega
        have HR6 := hid hr6
        have HX6 := hid hp6
        have HS6 := hid hs6
        have HK6 := hid hk6
        clear hr6 hp6 hs6 hk6)
     | (go_at_call 114
        refine (Ter.at HPT.out.VB HSC.out (by omega) (Cl2.px HNE.out) _ _ _ HR4d.out HX4d.out HK4d.out (by omega) (by omega)).mono ?_
        rintro e w5 ⟨s5, rfl, hs5, hr5, hp5, hk5⟩
        have hz5 : s5.size ≤ 400000000 := by omega
        have t5_0 : ¬ 9223372036854775807 < 4 + s5.size := by omega
        have t5_1 : ¬ 9223372036854775807 < 4 + s5.size + 1 := by omega
        have HR5 := hid hr5
        have HX5 := hid hp5
        have HS5 := hid hs5
        have HK5 := hid hk5
        clear hr5 hp5 hs5 hk5))
  all_goals
   go_wp2_with fail
   go_ret
   refine ⟨_, rfl, ?_, HR7.out.le (by omega), HPX.out _ HX7.out⟩
   have := HS5.out
   have := HS6.out
   have := HS7.out
   simp only [ByteArray.size_append, bsz]; simp; omega
 ·have t4_0 : ¬ 9223372036854775807 < 5 + s3.size := by omega
  have t4_1 : ¬ 9223372036854775807 < 5 + s3.size + 1 := by omega
  obtain ⟨ck0, ck1, ck2, ck3⟩ := HK4.out
  go_wp2_with fail
  go_at_call 120
  refine (mor (wB := wB) HSC.out (by omega) (Cl2.px HNE.out) _ _ (Nat.le_trans HS3.out (by decide)) _ _ HR4.out HX4.out HX4.out HK4.out).mono ?_
  rintro e w5 ⟨p5, q5, c5, d5, rfl, hm5, hr5, hp5, hk5⟩
  have HR5 := hid hr5
  have HX5 := hid hp5
  have HM5 := hid hm5
  have HK5 := hid hk5
  clear hr5 hp5 hm5 hk5
  go_wp2_with fail
  go_at_call 83
  refine (Ter.at HPT.out.W HM5.out (by omega) (Cl2.px HNE.out) _ _ _ HR5.out (Px.refl _ _) HK5.out (by omega) (by omega)).mono ?_
  rintro e w6 ⟨s6, rfl, hs6, hr6, hp6, hk6⟩
  have hz6 : s6.size ≤ 400000000 := by omega
  have t6_0 : ¬ 9223372036854775807 < 5 + s3.size + 1 + s6.size := by omega
  have t6_1 : ¬ 9223372036854775807 < 5 + s3.size + 1 + s6.size + 1 := by omega
  have HR6 := hid hr6
  have HX6 := hid (HX5.out.trans hp6)
  have HS6 := hid hs6
  have HK6 := hid hk6
  clear hr6 hp6 hs6 hk6
  go_wp2_with fail
  go_ret
  refine ⟨_, rfl, ?_, HR6.out.le (by omega), HPX.out _ HX6.out⟩
  have := HS3.out
  have := HS6.out
  simp only [ByteArray.size_append, bsz]; simp; omega
 ·have HR4d := hid HR4.out.drew
  have HX4d := hid (HX4.out.trans (pxd b w4))
  have HK4d := hid (Cl2.px HNE.out w4 w4.drew _ HR4.out (pxd b w4) HK4.out)
  obtain ⟨ck0, ck1, ck2, ck3⟩ := HK4.out
  go_wp2_with fail
  go_region_held3 (fun w' => w'.cell? ⟨w.heap.size, 0, none⟩ = some (.slice p n c) ∧ w'.cell? ⟨w.heap.size, 1, none⟩ = some (.slice q n e) ∧ w'.cell? ⟨g0, o0, none⟩ = some (.string x.text) ∧ w'.cell? ⟨g0, o0 + 1, none⟩ = some (.string y.text))
   (first | exact HK4d.out | exact HK5.out | exact HK6.out)
   (first
     | (have _ := HR5
        go_at_call 83
        refine (Ter.at HPT.out.W HSC.out (by omega) (Cl2.px HNE.out) _ _ _ HR5.out HX5.out HK5.out (by omega) (by omega)).mono ?_
        rintro e w6 ⟨s6, rfl, hs6, hr6, hp6, hk6⟩
        have hz6 : s6.size ≤ 400000000 := by omega
        have t6_0 : ¬ 9223372036854775807 < 5 + s5.size + 1 + s6.size := by omega
        have t6_1 : ¬ 9223372036854775807 < 5 + s5.size + 1 + s6.size + 1 := by omega
        have HR6 := hid hr6
        have HX6 := hid hp6
        have HS6 := hid hs6
        have HK6 := hid hk6
        clear hr6 hp6 hs6 hk6)
     | (go_at_call 114
        refine (Ter.at HPT.out.VB HSC.out (by omega) (Cl2.px HNE.out) _ _ _ HR4d.out HX4d.out HK4d.out (by omega) (by omega)).mono ?_
        rintro e w5 ⟨s5, rfl, hs5, hr5, hp5, hk5⟩
        have hz5 : s5.size ≤ 400000000 := by omega
        have t5_0 : ¬ 9223372036854775807 < 5 + s5.size := by omega
        have t5_1 : ¬ 9223372036854775807 < 5 + s5.size + 1 := by omega
        have HR5 := hid hr5
        have HX5 := hid hp5
        have HS5 := hid hs5
        have HK5 := hid hk5
        clear hr5 hp5 hs5 hk5))
  all_goals
   go_wp2_with fail
   go_ret
   refine ⟨_, rfl, ?_, HR6.out.le (by omega), HPX.out _ HX6.out⟩
   have := HS5.out
   have := HS6.out
   simp only [ByteArray.size_append, bsz]; simp; omega
 ·have t4_0 : ¬ 9223372036854775807 < 5 + want.size := by omega
  have t4_1 : ¬ 9223372036854775807 < 5 + want.size + 1 := by omega
  have HR4d := hid HR4.out.drew
  have HX4d := hid (HX4.out.trans (pxd b w4))
  have HK4d := hid (Cl2.px HNE.out w4 w4.drew _ HR4.out (pxd b w4) HK4.out)
  obtain ⟨ck0, ck1, ck2, ck3⟩ := HK4.out
  go_wp2_with fail
  go_region_held3 (fun w' => w'.cell? ⟨w.heap.size, 0, none⟩ = some (.slice p n c) ∧ w'.cell? ⟨w.heap.size, 1, none⟩ = some (.slice q n e) ∧ w'.cell? ⟨g0, o0, none⟩ = some (.string x.text) ∧ w'.cell? ⟨g0, o0 + 1, none⟩ = some (.string y.text))
   (first | exact HK4d.out | exact HK5.out | exact HK6.out)
   (first
     | (have _ := HR5
        go_at_call 114
        refine (Ter.at HPT.out.VB HSC.out (by omega) (Cl2.px HNE.out) _ _ _ HR5.out HX5.out HK5.out (by omega) (by omega)).mono ?_
        rintro e w6 ⟨s6, rfl, hs6, hr6, hp6, hk6⟩
        have hz6 : s6.size ≤ 400000000 := by omega
        have t6_0 : ¬ 9223372036854775807 < 5 + s5.size + 1 + s6.size := by omega
        have t6_1 : ¬ 9223372036854775807 < 5 + s5.size + 1 + s6.size + 1 := by omega
        have HR6 := hid hr6
        have HX6 := hid hp6
        have HS6 := hid hs6
        have HK6 := hid hk6
        clear hr6 hp6 hs6 hk6)
     | (go_at_call 83
        refine (Ter.at HPT.out.B HSC.out (by omega) (Cl2.px HNE.out) _ _ _ HR4d.out HX4d.out HK4d.out (by omega) (by omega)).mono ?_
        rintro e w5 ⟨s5, rfl, hs5, hr5, hp5, hk5⟩
        have hz5 : s5.size ≤ 400000000 := by omega
        have t5_0 : ¬ 9223372036854775807 < 5 + s5.size := by omega
        have t5_1 : ¬ 9223372036854775807 < 5 + s5.size + 1 := by omega
        have HR5 := hid hr5
        have HX5 := hid hp5
        have HS5 := hid hs5
        have HK5 := hid hk5
        clear hr5 hp5 hs5 hk5))
  all_goals
   go_wp2_with fail
   go_ret
   refine ⟨_, rfl, ?_, HR6.out.le (by omega), HPX.out _ HX6.out⟩
   have := HS5.out
   have := HS6.out
   simp only [ByteArray.size_append, bsz]; simp; omega
 ·obtain ⟨ck0, ck1, ck2, ck3⟩ := HK4.out
  go_wp2_with fail
  go_at_call 83
  refine (Ter.at HPT.out.W HSC.out (by omega) (Cl2.px HNE.out) _ _ _ HR4.out HX4.out HK4.out (by omega) (by omega)).mono ?_
  rintro e w5 ⟨s5, rfl, hs5, hr5, hp5, hk5⟩
  have hz5 : s5.size ≤ 400000000 := by omega
  have t5_0 : ¬ 9223372036854775807 < 14 + s5.size := by omega
  have t5_1 : ¬ 9223372036854775807 < 14 + s5.size + 2 := by omega
  have HR5 := hid hr5
  have HX5 := hid hp5
  have HS5 := hid hs5
  have HK5 := hid hk5
  clear hr5 hp5 hs5 hk5
  go_wp2_with fail
  go_ret
  refine ⟨_, rfl, ?_, HR5.out.le (by omega), HPX.out _ HX5.out⟩
  have := HS5.out
  simp only [ByteArray.size_append, bsz]; simp; omega
 ·have HR4d := hid HR4.out.drew
  have HX4d := hid (HX4.out.trans (pxd b w4))
  have HK4d := hid (Cl2.px HNE.out w4 w4.drew _ HR4.out (pxd b w4) HK4.out)
  obtain ⟨ck0, ck1, ck2, ck3⟩ := HK4.out
  go_wp2_with fail
  go_region_held3 (fun w' => w'.cell? ⟨w.heap.size, 0, none⟩ = some (.slice p n c) ∧ w'.cell? ⟨w.heap.size, 1, none⟩ = some (.slice q n e) ∧ w'.cell? ⟨g0, o0, none⟩ = some (.string x.text) ∧ w'.cell? ⟨g0, o0 + 1, none⟩ = some (.string y.text))
   (first | exact HK4d.out | exact HK5.out | exact HK6.out | exact HK7.out | exact HK8.out)
   (first
     | (have _ := HR7
        go_at_call 83
        refine (Ter.at HPT.out.W HM7.out (by omega) (Cl2.px HNE.out) _ _ _ HR7.out (Px.refl _ _) HK7.out (by omega) (by omega)).mono ?_
        rintro e w8 ⟨s8, rfl, hs8, hr8, hp8, hk8⟩
        have hz8 : s8.size ≤ 400000000 := by omega
        have t8_0 : ¬ 9223372036854775807 < 7 + s5.size + 1 + s3.size + 3 + s8.size := by omega
        have t8_1 : ¬ 9223372036854775807 < 7 + s5.size + 1 + s3.size + 3 + s8.size + 1 := by omega
        have HR8 := hid hr8
        have HX8 := hid (HX7.out.trans hp8)
        have HS8 := hid hs8
        have HK8 := hid hk8
        clear hr8 hp8 hs8 hk8)
     | (have _ := HR6
        go_at_call 120
        refine (mor (wB := wB) HM6.out (by omega) (Cl2.px HNE.out) _ _ (by decide) _ _ HR6.out (Px.refl _ _) HX6.out HK6.out).mono ?_
        rintro e w7 ⟨p7, q7, c7, d7, rfl, hm7, hr7, hp7, hk7⟩
        have HR7 := hid hr7
        have HX7 := hid hp7
        have HM7 := hid hm7
        have HK7 := hid hk7
        clear hr7 hp7 hm7 hk7)
     | (have _ := HR5
        go_at_call 120
        refine (mor (wB := wB) HSC.out (by omega) (Cl2.px HNE.out) _ _ (Nat.le_trans HS3.out (by decide)) _ _ HR5.out HX5.out HX5.out HK5.out).mono ?_
        rintro e w6 ⟨p6, q6, c6, d6, rfl, hm6, hr6, hp6, hk6⟩
        have HR6 := hid hr6
        have HX6 := hid hp6
        have HM6 := hid hm6
        have HK6 := hid hk6
        clear hr6 hp6 hm6 hk6)
     | (go_at_call 114
        refine (Ter.at HPT.out.VP HSC.out (by omega) (Cl2.px HNE.out) _ _ _ HR4d.out HX4d.out HK4d.out (by omega) (by omega)).mono ?_
        rintro e w5 ⟨s5, rfl, hs5, hr5, hp5, hk5⟩
        have hz5 : s5.size ≤ 400000000 := by omega
        have t5_0 : ¬ 9223372036854775807 < 7 + s5.size := by omega
        have t5_1 : ¬ 9223372036854775807 < 7 + s5.size + 1 := by omega
        have t5_2 : ¬ 9223372036854775807 < 7 + s5.size + 1 + s3.size := by omega
        have t5_3 : ¬ 9223372036854775807 < 7 + s5.size + 1 + s3.size + 3 := by omega
        have HR5 := hid hr5
        have HX5 := hid hp5
        have HS5 := hid hs5
        have HK5 := hid hk5
        clear hr5 hp5 hs5 hk5))
  all_goals
   go_wp2_with fail
   go_ret
   refine ⟨_, rfl, ?_, HR8.out.le (by omega), HPX.out _ HX8.out⟩
   have := HS3.out
   have := HS5.out
   have := HS8.out
   simp only [ByteArray.size_append, bsz]; simp; omega
 ·have t4_0 : ¬ 9223372036854775807 < 3 + want.size := by omega
  have t4_1 : ¬ 9223372036854775807 < 3 + want.size + 1 := by omega
  have t4_2 : ¬ 9223372036854775807 < 3 + want.size + 1 + want.size := by omega
  have t4_3 : ¬ 9223372036854775807 < 3 + want.size + 1 + want.size + 1 := by omega
  have HR4d := hid HR4.out.drew
  have HX4d := hid (HX4.out.trans (pxd b w4))
  have HK4d := hid (Cl2.px HNE.out w4 w4.drew _ HR4.out (pxd b w4) HK4.out)
  obtain ⟨ck0, ck1, ck2, ck3⟩ := HK4.out
  go_wp2_with fail
  go_region_held3 (fun w' => w'.cell? ⟨w.heap.size, 0, none⟩ = some (.slice p n c) ∧ w'.cell? ⟨w.heap.size, 1, none⟩ = some (.slice q n e) ∧ w'.cell? ⟨g0, o0, none⟩ = some (.string x.text) ∧ w'.cell? ⟨g0, o0 + 1, none⟩ = some (.string y.text))
   (first | exact HK4d.out | exact Cl2.px HNE.out _ _ _ HR4d.out ((Px.refl b _).alloc _) HK4d.out | exact HK5.out | exact HK6.out)
   (first
     | (have _ := HR5
        go_at_call 83
        refine (Ter.at HPT.out.C HSC.out (by omega) (Cl2.px HNE.out) _ _ _ HR5.out HX5.out HK5.out (by omega) (by omega)).mono ?_
        rintro e w6 ⟨s6, rfl, hs6, hr6, hp6, hk6⟩
        have hz6 : s6.size ≤ 400000000 := by omega
        have t6_0 : ¬ 9223372036854775807 < 1 + s5.size + 1 + s6.size := by omega
        have t6_1 : ¬ 9223372036854775807 < 1 + s5.size + 1 + s6.size + 1 := by omega
        have HR6 := hid hr6
        have HX6 := hid hp6
        have HS6 := hid hs6
        have HK6 := hid hk6
        clear hr6 hp6 hs6 hk6)
     | (go_at_call 40
        refine (rof (HR4d.out.alloc _) (by omega) _ 2 2 3 fsL (fsL_lit2 rfl) (by omega) (by omega) (by have := HR4.out.lt; simp; omega) fsL_small).mono ?_
        rintro e w5 ⟨s5, rfl, hs5, hr5, hp5⟩
        have hz5 : s5.size ≤ 400000000 := by omega
        have t5_0 : ¬ 9223372036854775807 < 1 + s5.size := by omega
        have t5_1 : ¬ 9223372036854775807 < 1 + s5.size + 1 := by omega
        have HX5 := hid ((HX4d.out.alloc _).trans hp5)
        have HK5 := hid (Cl2.px HNE.out _ _ _ (HR4d.out.alloc _) hp5 (Cl2.px HNE.out _ _ _ HR4d.out ((Px.refl b _).alloc _) HK4d.out))
        have HR5 := hid hr5
        have HS5 := hid hs5
        clear hr5 hp5 hs5))
  all_goals
   go_wp2_with fail
   go_ret
   refine ⟨_, rfl, ?_, HR6.out.le (by omega), HPX.out _ HX6.out⟩
   have := HS5.out
   have := HS6.out
   simp only [ByteArray.size_append, bsz]; simp; omega
 ·have t4_90 : ¬ 9223372036854775807 < 5 + s3.size := by omega
  have t4_91 : ¬ 9223372036854775807 < 5 + s3.size + 1 := by omega
  have t4_92 : ¬ 9223372036854775807 < 5 + s3.size + 1 + x.text.size := by omega
  have t4_93 : ¬ 9223372036854775807 < 5 + s3.size + 1 + x.text.size + 1 := by omega
  have HR4d := hid HR4.out.drew
  have HX4d := hid (HX4.out.trans (pxd b w4))
  have HK4d := hid (Cl2.px HNE.out w4 w4.drew _ HR4.out (pxd b w4) HK4.out)
  obtain ⟨ck0, ck1, ck2, ck3⟩ := HK4.out
  go_wp2_with fail
  go_region_held3 (fun w' => w'.cell? ⟨w.heap.size, 0, none⟩ = some (.slice p n c) ∧ w'.cell? ⟨w.heap.size, 1, none⟩ = some (.slice q n e) ∧ w'.cell? ⟨g0, o0, none⟩ = some (.string x.text) ∧ w'.cell? ⟨g0, o0 + 1, none⟩ = some (.string y.text))
   (first | exact HK4d.out | exact HK5.out | exact HK6.out)
   (first
     | (have _ := HR5
        go_at_call 83
        refine (Ter.at HKM.out HM5.out (by omega) (Cl2.px HNE.out) _ _ _ HR5.out (Px.refl _ _) HK5.out (by omega) (by omega)).mono ?_
        rintro e w6 ⟨s6, rfl, hs6, hr6, hp6, hk6⟩
        have hz6 : s6.size ≤ 400000000 := by omega
        have t6_0 : ¬ 9223372036854775807 < 5 + s3.size + 1 + x.text.size + 1 + s6.size := by omega
        have t6_1 : ¬ 9223372036854775807 < 5 + s3.size + 1 + x.text.size + 1 + s6.size + 1 := by omega
        have HR6 := hid hr6
        have HX6 := hid (HX5.out.trans hp6)
        have HS6 := hid hs6
        have HK6 := hid hk6
        clear hr6 hp6 hs6 hk6)
     | (go_at_call 120
        refine (mor (wB := wB) HSC.out (by omega) (Cl2.px HNE.out) _ _ (Nat.le_trans HS3.out (by decide)) _ _ HR4d.out HX4d.out HX4d.out HK4d.out).mono ?_
        rintro e w5 ⟨p5, q5, c5, d5, rfl, hm5, hr5, hp5, hk5⟩
        have HR5 := hid hr5
        have HX5 := hid hp5
        have HM5 := hid hm5
        have HK5 := hid hk5
        clear hr5 hp5 hm5 hk5))
  all_goals
   go_wp2_with fail
   go_ret
   refine ⟨_, rfl, ?_, HR6.out.le (by omega), HPX.out _ HX6.out⟩
   have := HS3.out
   have := HS6.out
   simp only [ByteArray.size_append, bsz]; simp; omega
 ·go_wp2_with fail
  go_at_call 41
  refine (pic HR4.out (by omega) 3 (by omega)).mono ?_
  rintro e w5 ⟨x5, rfl, hx5a, hx5b, _, hr5, hp5⟩
  have HK5 := hid (Cl2.px HNE.out w4 w5 _ HR4.out hp5 HK4.out)
  have HR5 := hid hr5
  have HX5 := hid (HX4.out.trans hp5)
  clear hr5 hp5 hx5b
  by_cases hz : x5 = 0
  ·subst hz
   go_wp2_with fail
   go_ret
   refine ⟨_, rfl, ?_, HR5.out.le (by omega), HPX.out _ HX5.out⟩
   simp only [ByteArray.size_append, bsz]; simp; omega
  ·have hzf : (x5 == 0) = false := beq_eq_false_iff_ne.2 hz
   clear hz
   have t5_90 : ¬ 9223372036854775807 < 5 + s3.size := by omega
   have t5_91 : ¬ 9223372036854775807 < 5 + s3.size + 1 := by omega
   have t5_92 : ¬ 9223372036854775807 < 5 + s3.size + 1 + x.text.size := by omega
   have t5_93 : ¬ 9223372036854775807 < 5 + s3.size + 1 + x.text.size + 1 := by omega
   have HR5d := hid HR5.out.drew
   have HX5d := hid (HX5.out.trans (pxd b w5))
   have HK5d := hid (Cl2.px HNE.out w5 w5.drew _ HR5.out (pxd b w5) HK5.out)
   obtain ⟨ck0, ck1, ck2, ck3⟩ := HK5.out
   go_wp2_with fail
   go_region_held3 (fun w' => w'.cell? ⟨w.heap.size, 0, none⟩ = some (.slice p n c) ∧ w'.cell? ⟨w.heap.size, 1, none⟩ = some (.slice q n e) ∧ w'.cell? ⟨g0, o0, none⟩ = some (.string x.text) ∧ w'.cell? ⟨g0, o0 + 1, none⟩ = some (.string y.text))
    (first | exact HK5d.out | exact HK6.out | exact HK7.out)
    (first
      | (have _ := HR6
         go_at_call 83
         refine (Ter.at HKM.out HM6.out (by omega) (Cl2.px HNE.out) _ _ _ HR6.out (Px.refl _ _) HK6.out (by omega) (by omega)).mono ?_
         rintro e w7 ⟨s7, rfl, hs7, hr7, hp7, hk7⟩
         have hz7 : s7.size ≤ 400000000 := by omega
         have t7_0 : ¬ 9223372036854775807 < 5 + s3.size + 1 + x.text.size + 1 + s7.size := by omega
         have t7_1 : ¬ 9223372036854775807 < 5 + s3.size + 1 + x.text.size + 1 + s7.size + 1 := by omega
         have HR7 := hid hr7
         have HX7 := hid (HX6.out.trans hp7)
         have HS7 := hid hs7
         have HK7 := hid hk7
         clear hr7 hp7 hs7 hk7)
      | (go_at_call 120
         refine (mor (wB := wB) HSC.out (by omega) (Cl2.px HNE.out) _ _ (Nat.le_trans HS3.out (by decide)) _ _ HR5d.out HX5d.out HX5d.out HK5d.out).mono ?_
         rintro e w6 ⟨p6, q6, c6, d6, rfl, hm6, hr6, hp6, hk6⟩
         have HR6 := hid hr6
         have HX6 := hid hp6
         have HM6 := hid hm6
         have HK6 := hid hk6
         clear hr6 hp6 hm6 hk6))
   all_goals
    go_wp2_with fail
    go_ret
    refine ⟨_, rfl, ?_, HR7.out.le (by omega), HPX.out _ HX7.out⟩
    have := HS3.out
    have := HS7.out
    simp only [ByteArray.size_append, bsz]; simp; omega
 ·have t4_90 : ¬ 9223372036854775807 < 5 + s3.size := by omega
  have t4_91 : ¬ 9223372036854775807 < 5 + s3.size + 1 := by omega
  have t4_92 : ¬ 9223372036854775807 < 5 + s3.size + 1 + x.text.size := by omega
  have t4_93 : ¬ 9223372036854775807 < 5 + s3.size + 1 + x.text.size + 1 := by omega
  have HR4d := hid HR4.out.drew
  have HX4d := hid (HX4.out.trans (pxd b w4))
  have HK4d := hid (Cl2.px HNE.out w4 w4.drew _ HR4.out (pxd b w4) HK4.out)
  obtain ⟨ck0, ck1, ck2, ck3⟩ := HK4.out
  go_wp2_with fail
  go_region_held3 (fun w' => w'.cell? ⟨w.heap.size, 0, none⟩ = some (.slice p n c) ∧ w'.cell? ⟨w.heap.size, 1, none⟩ = some (.slice q n e) ∧ w'.cell? ⟨g0, o0, none⟩ = some (.string x.text) ∧ w'.cell? ⟨g0, o0 + 1, none⟩ = some (.string y.text))
   (first | exact HK4d.out | exact HK5.out | exact HK6.out)
   (first
     | (have _ := HR5
        go_at_call 83
        refine (Ter.at HKM.out HM5.out (by omega) (Cl2.px HNE.out) _ _ _ HR5.out (Px.refl _ _) HK5.out (by omega) (by omega)).mono ?_
        rintro e w6 ⟨s6, rfl, hs6, hr6, hp6, hk6⟩
        have hz6 : s6.size ≤ 400000000 := by omega
        have t6_0 : ¬ 9223372036854775807 < 5 + s3.size + 1 + x.text.size + 1 + s6.size := by omega
        have t6_1 : ¬ 9223372036854775807 < 5 + s3.size + 1 + x.text.size + 1 + s6.size + 1 := by omega
        have HR6 := hid hr6
        have HX6 := hid (HX5.out.trans hp6)
        have HS6 := hid hs6
        have HK6 := hid hk6
        clear hr6 hp6 hs6 hk6)
     | (go_at_call 120
        refine (mor (wB := wB) HSC.out (by omega) (Cl2.px HNE.out) _ _ (Nat.le_trans HS3.out (by decide)) _ _ HR4d.out HX4d.out HX4d.out HK4d.out).mono ?_
        rintro e w5 ⟨p5, q5, c5, d5, rfl, hm5, hr5, hp5, hk5⟩
        have HR5 := hid hr5
        have HX5 := hid hp5
        have HM5 := hid hm5
        have HK5 := hid hk5
        clear hr5 hp5 hm5 hk5))
  all_goals
   go_wp2_with fail
   go_ret
   refine ⟨_, rfl, ?_, HR6.out.le (by omega), HPX.out _ HX6.out⟩
   have := HS3.out
   have := HS6.out
   simp only [ByteArray.size_append, bsz]; simp; omega
 ·have t4_90 : ¬ 9223372036854775807 < 5 + s3.size := by omega
  have t4_91 : ¬ 9223372036854775807 < 5 + s3.size + 1 := by omega
  have t4_92 : ¬ 9223372036854775807 < 5 + s3.size + 1 + x.text.size := by omega
  have t4_93 : ¬ 9223372036854775807 < 5 + s3.size + 1 + x.text.size + 1 := by omega
  have HR4d := hid HR4.out.drew
  have HX4d := hid (HX4.out.trans (pxd b w4))
  have HK4d := hid (Cl2.px HNE.out w4 w4.drew _ HR4.out (pxd b w4) HK4.out)
  obtain ⟨ck0, ck1, ck2, ck3⟩ := HK4.out
  go_wp2_with fail
  go_region_held3 (fun w' => w'.cell? ⟨w.heap.size, 0, none⟩ = some (.slice p n c) ∧ w'.cell? ⟨w.heap.size, 1, none⟩ = some (.slice q n e) ∧ w'.cell? ⟨g0, o0, none⟩ = some (.string x.text) ∧ w'.cell? ⟨g0, o0 + 1, none⟩ = some (.string y.text))
   (first | exact HK4d.out | exact HK5.out | exact HK6.out)
   (first
     | (have _ := HR5
        go_at_call 83
        refine (Ter.at HKM.out HM5.out (by omega) (Cl2.px HNE.out) _ _ _ HR5.out (Px.refl _ _) HK5.out (by omega) (by omega)).mono ?_
        rintro e w6 ⟨s6, rfl, hs6, hr6, hp6, hk6⟩
        have hz6 : s6.size ≤ 400000000 := by omega
        have t6_0 : ¬ 9223372036854775807 < 5 + s3.size + 1 + x.text.size + 1 + s6.size := by omega
        have t6_1 : ¬ 9223372036854775807 < 5 + s3.size + 1 + x.text.size + 1 + s6.size + 1 := by omega
        have HR6 := hid hr6
        have HX6 := hid (HX5.out.trans hp6)
        have HS6 := hid hs6
        have HK6 := hid hk6
        clear hr6 hp6 hs6 hk6)
     | (go_at_call 120
        refine (mor (wB := wB) HSC.out (by omega) (Cl2.px HNE.out) _ _ (Nat.le_trans HS3.out (by decide)) _ _ HR4d.out HX4d.out HX4d.out HK4d.out).mono ?_
        rintro e w5 ⟨p5, q5, c5, d5, rfl, hm5, hr5, hp5, hk5⟩
        have HR5 := hid hr5
        have HX5 := hid hp5
        have HM5 := hid hm5
        have HK5 := hid hk5
        clear hr5 hp5 hm5 hk5))
  all_goals
   go_wp2_with fail
   go_ret
   refine ⟨_, rfl, ?_, HR6.out.le (by omega), HPX.out _ HX6.out⟩
   have := HS3.out
   have := HS6.out
   simp only [ByteArray.size_append, bsz]; simp; omega
 ·have t4_90 : ¬ 9223372036854775807 < 5 + s3.size := by omega
  have t4_91 : ¬ 9223372036854775807 < 5 + s3.size + 1 := by omega
  have t4_92 : ¬ 9223372036854775807 < 5 + s3.size + 1 + x.text.size := by omega
  have t4_93 : ¬ 9223372036854775807 < 5 + s3.size + 1 + x.text.size + 1 := by omega
  have HR4d := hid HR4.out.drew
  have HX4d := hid (HX4.out.trans (pxd b w4))
  have HK4d := hid (Cl2.px HNE.out w4 w4.drew _ HR4.out (pxd b w4) HK4.out)
  obtain ⟨ck0, ck1, ck2, ck3⟩ := HK4.out
  go_wp2_with fail
  go_region_held3 (fun w' => w'.cell? ⟨w.heap.size, 0, none⟩ = some (.slice p n c) ∧ w'.cell? ⟨w.heap.size, 1, none⟩ = some (.slice q n e) ∧ w'.cell? ⟨g0, o0, none⟩ = some (.string x.text) ∧ w'.cell? ⟨g0, o0 + 1, none⟩ = some (.string y.text))
   (first | exact HK4d.out | exact HK5.out | exact HK6.out)
   (first
     | (have _ := HR5
        go_at_call 83
        refine (Ter.at HKM.out HM5.out (by omega) (Cl2.px HNE.out) _ _ _ HR5.out (Px.refl _ _) HK5.out (by omega) (by omega)).mono ?_
        rintro e w6 ⟨s6, rfl, hs6, hr6, hp6, hk6⟩
        have hz6 : s6.size ≤ 400000000 := by omega
        have t6_0 : ¬ 9223372036854775807 < 5 + s3.size + 1 + x.text.size + 1 + s6.size := by omega
        have t6_1 : ¬ 9223372036854775807 < 5 + s3.size + 1 + x.text.size + 1 + s6.size + 1 := by omega
        have HR6 := hid hr6
        have HX6 := hid (HX5.out.trans hp6)
        have HS6 := hid hs6
        have HK6 := hid hk6
        clear hr6 hp6 hs6 hk6)
     | (go_at_call 120
        refine (mor (wB := wB) HSC.out (by omega) (Cl2.px HNE.out) _ _ (Nat.le_trans HS3.out (by decide)) _ _ HR4d.out HX4d.out HX4d.out HK4d.out).mono ?_
        rintro e w5 ⟨p5, q5, c5, d5, rfl, hm5, hr5, hp5, hk5⟩
        have HR5 := hid hr5
        have HX5 := hid hp5
        have HM5 := hid hm5
        have HK5 := hid hk5
        clear hr5 hp5 hm5 hk5))
  all_goals
   go_wp2_with fail
   go_ret
   refine ⟨_, rfl, ?_, HR6.out.le (by omega), HPX.out _ HX6.out⟩
   have := HS3.out
   have := HS6.out
   simp only [ByteArray.size_append, bsz]; simp; omega
theorem l91M_choice {b d : Nat} {want : ByteArray} {x y : Ty} (hread : readTy want = some (.choice x y)) (hM : DrawsM b d) (hV : DrawsV b d) (hS : mC (d + 1) want.size ≤ 400000000) (hd : d ≤ 8) :
    Ter 83 b (d + 1) want (mC (d + 1) want.size) := by
 intro r w p q n c e ns ts j hsc hr hq hn hj
 have HPT := hid (parts_of hM hV (by intro t ht; rw [hread] at ht; simp at ht; subst ht; rfl) hS)
 have hwt := lwt hread
 have hkz : want.size = x.text.size + y.text.size + 5 := by rw [hwt]; exact tx_choice x y
 have HKM0 := hid (show Ter 83 b d x.text (mA d * want.size + 30 * mA d) from (hM x.text (wantC_kid hread (i := 0) rfl (wf_choice hread).1) (by
  rw [mC_succ] at hS
  have h1 : mA d * x.text.size ≤ mA d * want.size := Nat.mul_le_mul_left _ (by omega)
  rw [mC_eq]; omega)).le (by
  have h1 : mA d * x.text.size ≤ mA d * want.size := Nat.mul_le_mul_left _ (by omega)
  rw [mC_eq]; omega))
 have HKM := hid (show Ter 83 b d y.text (mA d * want.size + 30 * mA d) from (hM y.text (wantC_kid hread (i := 1) rfl (wf_choice hread).2) (by
  rw [mC_succ] at hS
  have h1 : mA d * y.text.size ≤ mA d * want.size := Nat.mul_le_mul_left _ (by omega)
  rw [mC_eq]; omega)).le (by
  have h1 : mA d * y.text.size ≤ mA d * want.size := Nat.mul_le_mul_left _ (by omega)
  rw [mC_eq]; omega))
 rw [mC_succ] at hS hq ⊢
 obtain ⟨P, hP⟩ : ∃ P, mA d * want.size = P := ⟨_, rfl⟩
 obtain ⟨A, hA⟩ : ∃ A, mA d = A := ⟨_, rfl⟩
 rw [hP, hA] at HPT HKM0 HKM
 rw [hP, hA] at hS hq ⊢
 have hwz : want.size ≤ 400000000 := by omega
 have HKD := hid (fun W => (spc want hwz W).mono fun e w' h => lwk h)
 rw [hread] at HKD
 have HKD2 := hid (fun W => (show Calls Tryz.prog 117 #[.string want] W (KdPost [x, y] 2 true W) from HKD.out W))
 have HHD := hid (fun W => (show Calls Tryz.prog 103 #[.string want] W fun e w' => e = .returned (.string ({ data := #[38] } : ByteArray)) ∧ Below W.heap.size W w' from by have h1 := spe want hwz W; rw [hread] at h1; exact h1))
 obtain ⟨wB, hwB⟩ : ∃ W, (w.alloc (.cells #[.slice p n c, .slice q n e] 114)) = W := ⟨_, rfl⟩
 have HWB := hid hwB
 have HPX := hid (fun (W : World) (hx : Px b wB W) => (show Px b w W from (show Px b w wB from by rw [← hwB]; exact (Px.refl b w).alloc _).trans hx))
 have HSC := hid (fun (W : World) (hx : Px b wB W) => hsc.px hr (HPX.out W hx))
 have HR0 := hid (show Rd wB b r from by rw [← hwB]; exact hr.alloc _)
 have HX0 := hid (Px.refl b wB)
 have HNE := hid (show w.heap.size ≠ b from by have := hr.lt; omega)
 have HK0 := hid (show Cl0 w.heap.size p q n c e wB from by rw [← hwB]; have h := cel (hea w (.cells #[.slice p n c, .slice q n e] 114) _ rfl); exact ⟨h.1, h.2.1⟩)
 subst hj
 have hd1 : (0 : Int) < (d : Int) + 1 := by omega
 have hd2 : ¬ ((d : Int) + 1 ≤ 0) := by omega
 have hd3 : decide ((d : Int) + 1 ≤ 0) = false := decide_eq_false hd2
 clear hread hM hV hwt hsc hr HKD hP hA hkz hwB
 go_enter Tryz.func83, Tryz.ntmps83
 go_wp2_with fail
 rw [HWB.out]
 go_at_call 117
 refine (HKD2.out _).mono ?_
 rintro e w1 ⟨q1, d1, rfl, hv1, hu1, hb1⟩
 obtain ⟨g0, o0, hbo, hc0⟩ := hv1 0 (.string x.text) rfl
 subst hbo
 have hc0 : w1.cell? ⟨g0, o0, none⟩ = some (.string x.text) := hc0
 obtain ⟨g1, o1, hbo1, hc1⟩ := hv1 1 (.string y.text) rfl
 obtain ⟨rfl, rfl⟩ : g0 = g1 ∧ o0 = o1 := by simpa using hbo1
 clear hbo1
 have HR1 := hid (HR0.out.below hb1 HR0.out.lt (Nat.le_refl _))
 have hp1 : Px b wB w1 := Px.below hb1 (Nat.le_refl _)
 have HX1 := hid hp1
 have hk1 := Cl0.px HNE.out wB w1 _ HR0.out hp1 HK0.out
 have HK1 := hid (show Cl2 w.heap.size p q n c e g0 o0 x.text y.text w1 from ⟨hk1.1, hk1.2, hc0, hc1⟩)
 clear hv1 hu1 hb1 hp1 hk1 hc0 hc1
 go_wp2_with fail
 go_at_call 103
 refine (HHD.out _).mono ?_
 rintro e w2 ⟨rfl, hb2⟩
 have hp2 : Px b w1 w2 := Px.below hb2 (Nat.le_refl _)
 have HK2 := hid (Cl2.px HNE.out w1 w2 _ HR1.out hp2 HK1.out)
 have HR2 := hid (HR1.out.below hb2 HR1.out.lt (Nat.le_refl _))
 have HX2 := hid (HX1.out.trans hp2)
 clear hb2 hp2
 go_wp2_with fail
 go_at_call 119
 refine (l91Name_any HR2.out (by omega)).mono ?_
 rintro e w3 ⟨s3, rfl, hs3, hr3, hp3⟩
 have hz3 : s3.size ≤ 2 := hs3
 have HK3 := hid (Cl2.px HNE.out w2 w3 _ HR2.out hp3 HK2.out)
 have HR3 := hid hr3
 have HX3 := hid (HX2.out.trans hp3)
 have HS3 := hid hs3
 clear hr3 hp3 hs3
 go_wp2_with fail
 go_at_call 41
 refine (pic HR3.out (by omega) 14 (by omega)).mono ?_
 rintro e w4 ⟨x4, rfl, hx4a, hx4b, _, hr4, hp4⟩
 have hx4c : x4 < 14 := hx4b (by decide)
 have HK4 := hid (Cl2.px HNE.out w3 w4 _ HR3.out hp4 HK3.out)
 have HR4 := hid hr4
 have HX4 := hid (HX3.out.trans hp4)
 clear hr4 hp4 hx4b
 have hcs := cases14 hx4a hx4c
 clear hx4a hx4c
 rcases hcs with rfl | rfl | rfl | rfl | rfl | rfl | rfl | rfl | rfl | rfl | rfl | rfl | rfl | rfl
 iterate 2
  ·go_wp2_with fail
   go_at_call 115
   refine (types1 HR4.out (by omega)).mono ?_
   rintro e w5 ⟨s5, rfl, hs5, hr5, hp5⟩
   have hz5 : s5.size ≤ 23 := hs5
   have t5_0 : ¬ 9223372036854775807 < 3 + s5.size := by omega
   have t5_1 : ¬ 9223372036854775807 < 3 + s5.size + 1 := by omega
   have HK5 := hid (Cl2.px HNE.out w4 w5 _ HR4.out hp5 HK4.out)
   have HR5 := hid hr5
   have HX5 := hid (HX4.out.trans hp5)
   have HS5 := hid hs5
   clear hr5 hp5 hs5
   have HR5d := hid HR5.out.drew
   have HX5d := hid (HX5.out.trans (pxd b w5))
   have HK5d := hid (Cl2.px HNE.out w5 w5.drew _ HR5.out (pxd b w5) HK5.out)
   obtain ⟨ck0, ck1, ck2, ck3⟩ := HK5.out
   go_wp2_with fail
   go_region_held3 (fun w' => w'.cell? ⟨w.heap.size, 0, none⟩ = some (.slice p n c) ∧ w'.cell? ⟨w.heap.size, 1, none⟩ = some (.slice q n e) ∧ w'.cell? ⟨g0, o0, none⟩ = some (.string x.text) ∧ w'.cell? ⟨g0, o0 + 1, none⟩ = some (.string y.text))
    (first | exact HK5d.out | exact HK6.out | exact HK7.out | exact HK8.out)
    (first
      | (have _ := HR7
         go_at_call 83
         refine (Ter.at HPT.out.W HM7.out (by omega) (Cl2.px HNE.out) _ _ _ HR7.out (Px.refl _ _) HK7.out (by omega) (by omega)).mono ?_
         rintro e w8 ⟨s8, rfl, hs8, hr8, hp8, hk8⟩
         have hz8 : s8.size ≤ 400000000 := by omega
         have t8_0 : ¬ 9223372036854775807 < 4 + s6.size + 1 + s3.size + 1 + s8.size := by omega
         have t8_1 : ¬ 9223372036854775807 < 4 + s6.size + 1 + s3.size + 1 + s8.size + 1 := by omega
         have HR8 := hid hr8
         have HX8 := hid (HX7.out.trans hp8)
         have HS8 := hid hs8
         have HK8 := hid hk8
         clear hr8 hp8 hs8 hk8)
      | (have _ := HR6
         go_at_call 120
         refine (mor (wB := wB) HSC.out (by omega) (Cl2.px HNE.out) _ _ (Nat.le_trans HS3.out (by decide)) _ _ HR6.out HX6.out HX6.out HK6.out).mono ?_
         rintro e w7 ⟨p7, q7, c7, d7, rfl, hm7, hr7, hp7, hk7⟩
         have HR7 := hid hr7
         have HX7 := hid hp7
         have HM7 := hid hm7
         have HK7 := hid hk7
         clear hr7 hp7 hm7 hk7)
      | (go_at_call 83
         refine (Ter.at (HPT.out.K _ HS5.out) HSC.out (by omega) (Cl2.px HNE.out) _ _ _ HR5d.out HX5d.out HK5d.out (by omega) (by omega)).mono ?_
         rintro e w6 ⟨s6, rfl, hs6, hr6, hp6, hk6⟩
         have hz6 : s6.size ≤ 400000000 := by omega
         have t6_0 : ¬ 9223372036854775807 < 4 + s6.size := by omega
         have t6_1 : ¬ 9223372036854775807 < 4 + s6.size + 1 := by omega
         have t6_2 : ¬ 9223372036854775807 < 4 + s6.size + 1 + s3.size := by omega
         have t6_3 : ¬ 9223372036854775807 < 4 + s6.size + 1 + s3.size + 1 := by omega
         have HR6 := hid hr6
         have HX6 := hid hp6
         have HS6 := hid hs6
         have HK6 := hid hk6
         clear hr6 hp6 hs6 hk6))
   all_goals
    go_wp2_with fail
    go_ret
    refine ⟨_, rfl, ?_, HR8.out.le (by omega), HPX.out _ HX8.out⟩
    have := HS3.out
    have := HS5.out
    have := HS6.out
    have := HS8.out
    simp only [ByteArray.size_append, bsz]; simp; omega
 ·have HR4d := hid HR4.out.drew
  have HX4d := hid (HX4.out.trans (pxd b w4))
  have HK4d := hid (Cl2.px HNE.out w4 w4.drew _ HR4.out (pxd b w4) HK4.out)
  obtain ⟨ck0, ck1, ck2, ck3⟩ := HK4.out
  go_wp2_with fail
  go_region_held3 (fun w' => w'.cell? ⟨w.heap.size, 0, none⟩ = some (.slice p n c) ∧ w'.cell? ⟨w.heap.size, 1, none⟩ = some (.slice q n e) ∧ w'.cell? ⟨g0, o0, none⟩ = some (.string x.text) ∧ w'.cell? ⟨g0, o0 + 1, none⟩ = some (.string y.text))
   (first | exact HK4d.out | exact HK5.out | exact HK6.out | exact HK7.out)
   (first
     | (have _ := HR6
        go_at_call 83
        refine (Ter.at HPT.out.W HSC.out (by omega) (Cl2.px HNE.out) _ _ _ HR6.out HX6.out HK6.out (by omega) (by omega)).mono ?_
        rintro e w7 ⟨s7, rfl, hs7, hr7, hp7, hk7⟩
        have hz7 : s7.size ≤ 400000000 := by omega
        have t7_0 : ¬ 9223372036854775807 < 4 + s5.size + 1 + s6.size + 1 + s7.size := by omega
        have t7_1 : ¬ 9223372036854775807 < 4 + s5.size + 1 + s6.size + 1 + s7.size + 1 := by omega
        have HR7 := hid hr7
        have HX7 := hid hp7
        have HS7 := hid hs7
        have HK7 := hid hk7
        clear hr7 hp7 hs7 hk7)
     | (have _ := HR5
        go_at_call 83
        refine (Ter.at HPT.out.W HSC.out (by omega) (Cl2.px HNE.out) _ _ _ HR5.out HX5.out HK5.out (by omega) (by omega)).mono ?_
        rintro e w6 ⟨s6, rfl, hs6, hr6, hp6, hk6⟩
        have hz6 : s6.size ≤ 400000000 := by omega
        have t6_0 : ¬ 9223372036854775807 < 4 + s5.size + 1 + s6.size := by omega
        have t6_1 : ¬ 9223372036854775807 < 4 + s5.size + 1 + s6.size + 1 := by omega
        have HR6 := hid hr6
        have HX6 := hid hp6
        have HS6 := hid hs6
        have HK6 := hid hk6
        clear hr6 hp6 hs6 hk6)
     | (go_at_call 114
        refine (Ter.at HPT.out.VB HSC.out (by omega) (Cl2.px HNE.out) _ _ _ HR4d.out HX4d.out HK4d.out (by omega) (by omega)).mono ?_
        rintro e w5 ⟨s5, rfl, hs5, hr5, hp5, hk5⟩
        have hz5 : s5.size ≤ 400000000 := by omega
        have t5_0 : ¬ 9223372036854775807 < 4 + s5.size := by omega
        have t5_1 : ¬ 9223372036854775807 < 4 + s5.size + 1 := by omega
        have HR5 := hid hr5
        have HX5 := hid hp5
        have HS5 := hid hs5
        have HK5 := hid hk5
        clear hr5 hp5 hs5 hk5))
  all_goals
   go_wp2_with fail
   go_ret
   refine ⟨_, rfl, ?_, HR7.out.le (by omega), HPX.out _ HX7.out⟩
   have := HS5.out
   have := HS6.out
   have := HS7.out
   simp only [ByteArray.size_append, bsz]; simp; omega
 ·have t4_0 : ¬ 9223372036854775807 < 5 + s3.size := by omega
  have t4_1 : ¬ 9223372036854775807 < 5 + s3.size + 1 := by omega
  obtain ⟨ck0, ck1, ck2, ck3⟩ := HK4.out
  go_wp2_with fail
  go_at_call 120
  refine (mor (wB := wB) HSC.out (by omega) (Cl2.px HNE.out) _ _ (Nat.le_trans HS3.out (by decide)) _ _ HR4.out HX4.out HX4.out HK4.out).mono ?_
  rintro e w5 ⟨p5, q5, c5, d5, rfl, hm5, hr5, hp5, hk5⟩
  have HR5 := hid hr5
  have HX5 := hid hp5
  have HM5 := hid hm5
  have HK5 := hid hk5
  clear hr5 hp5 hm5 hk5
  go_wp2_with fail
  go_at_call 83
  refine (Ter.at HPT.out.W HM5.out (by omega) (Cl2.px HNE.out) _ _ _ HR5.out (Px.refl _ _) HK5.out (by omega) (by omega)).mono ?_
  rintro e w6 ⟨s6, rfl, hs6, hr6, hp6, hk6⟩
  have hz6 : s6.size ≤ 400000000 := by omega
  have t6_0 : ¬ 9223372036854775807 < 5 + s3.size + 1 + s6.size := by omega
  have t6_1 : ¬ 9223372036854775807 < 5 + s3.size + 1 + s6.size + 1 := by omega
  have HR6 := hid hr6
  have HX6 := hid (HX5.out.trans hp6)
  have HS6 := hid hs6
  have HK6 := hid hk6
  clear hr6 hp6 hs6 hk6
  go_wp2_with fail
  go_ret
  refine ⟨_, rfl, ?_, HR6.out.le (by omega), HPX.out _ HX6.out⟩
  have := HS3.out
  have := HS6.out
  simp only [ByteArray.size_append, bsz]; simp; omega
 ·have HR4d := hid HR4.out.drew
  have HX4d := hid (HX4.out.trans (pxd b w4))
  have HK4d := hid (Cl2.px HNE.out w4 w4.drew _ HR4.out (pxd b w4) HK4.out)
  obtain ⟨ck0, ck1, ck2, ck3⟩ := HK4.out
  go_wp2_with fail
  go_region_held3 (fun w' => w'.cell? ⟨w.heap.size, 0, none⟩ = some (.slice p n c) ∧ w'.cell? ⟨w.heap.size, 1, none⟩ = some (.slice q n e) ∧ w'.cell? ⟨g0, o0, none⟩ = some (.string x.text) ∧ w'.cell? ⟨g0, o0 + 1, none⟩ = some (.string y.text))
   (first | exact HK4d.out | exact HK5.out | exact HK6.out)
   (first
     | (have _ := HR5
        go_at_call 83
        refine (Ter.at HPT.out.W HSC.out (by omega) (Cl2.px HNE.out) _ _ _ HR5.out HX5.out HK5.out (by omega) (by omega)).mono ?_
        rintro e w6 ⟨s6, rfl, hs6, hr6, hp6, hk6⟩
        have hz6 : s6.size ≤ 400000000 := by omega
        have t6_0 : ¬ 9223372036854775807 < 5 + s5.size + 1 + s6.size := by omega
        have t6_1 : ¬ 9223372036854775807 < 5 + s5.size + 1 + s6.size + 1 := by omega
        have HR6 := hid hr6
        have HX6 := hid hp6
        have HS6 := hid hs6
        have HK6 := hid hk6
        clear hr6 hp6 hs6 hk6)
     | (go_at_call 114
        refine (Ter.at HPT.out.VB HSC.out (by omega) (Cl2.px HNE.out) _ _ _ HR4d.out HX4d.out HK4d.out (by omega) (by omega)).mono ?_
        rintro e w5 ⟨s5, rfl, hs5, hr5, hp5, hk5⟩
        have hz5 : s5.size ≤ 400000000 := by omega
        have t5_0 : ¬ 9223372036854775807 < 5 + s5.size := by omega
        have t5_1 : ¬ 9223372036854775807 < 5 + s5.size + 1 := by omega
        have HR5 := hid hr5
        have HX5 := hid hp5
        have HS5 := hid hs5
        have HK5 := hid hk5
        clear hr5 hp5 hs5 hk5))
  all_goals
   go_wp2_with fail
   go_ret
   refine ⟨_, rfl, ?_, HR6.out.le (by omega), HPX.out _ HX6.out⟩
   have := HS5.out
   have := HS6.out
   simp only [ByteArray.size_append, bsz]; simp; omega
 ·have t4_0 : ¬ 9223372036854775807 < 5 + want.size := by omega
  have t4_1 : ¬ 9223372036854775807 < 5 + want.size + 1 := by omega
  have HR4d := hid HR4.out.drew
  have HX4d := hid (HX4.out.trans (pxd b w4))
  have HK4d := hid (Cl2.px HNE.out w4 w4.drew _ HR4.out (pxd b w4) HK4.out)
  obtain ⟨ck0, ck1, ck2, ck3⟩ := HK4.out
  go_wp2_with fail
  go_region_held3 (fun w' => w'.cell? ⟨w.heap.size, 0, none⟩ = some (.slice p n c) ∧ w'.cell? ⟨w.heap.size, 1, none⟩ = some (.slice q n e) ∧ w'.cell? ⟨g0, o0, none⟩ = some (.string x.text) ∧ w'.cell? ⟨g0, o0 + 1, none⟩ = some (.string y.text))
   (first | exact HK4d.out | exact HK5.out | exact HK6.out)
   (first
     | (have _ := HR5
        go_at_call 114
        refine (Ter.at HPT.out.VB HSC.out (by omega) (Cl2.px HNE.out) _ _ _ HR5.out HX5.out HK5.out (by omega) (by omega)).mono ?_
        rintro e w6 ⟨s6, rfl, hs6, hr6, hp6, hk6⟩
        have hz6 : s6.size ≤ 400000000 := by omega
        have t6_0 : ¬ 9223372036854775807 < 5 + s5.size + 1 + s6.size := by omega
        have t6_1 : ¬ 9223372036854775807 < 5 + s5.size + 1 + s6.size + 1 := by omega
        have HR6 := hid hr6
        have HX6 := hid hp6
        have HS6 := hid hs6
        have HK6 := hid hk6
        clear hr6 hp6 hs6 hk6)
     | (go_at_call 83
        refine (Ter.at HPT.out.B HSC.out (by omega) (Cl2.px HNE.out) _ _ _ HR4d.out HX4d.out HK4d.out (by omega) (by omega)).mono ?_
        rintro e w5 ⟨s5, rfl, hs5, hr5, hp5, hk5⟩
        have hz5 : s5.size ≤ 400000000 := by omega
        have t5_0 : ¬ 9223372036854775807 < 5 + s5.size := by omega
        have t5_1 : ¬ 9223372036854775807 < 5 + s5.size + 1 := by omega
        have HR5 := hid hr5
        have HX5 := hid hp5
        have HS5 := hid hs5
        have HK5 := hid hk5
        clear hr5 hp5 hs5 hk5))
  all_goals
   go_wp2_with fail
   go_ret
   refine ⟨_, rfl, ?_, HR6.out.le (by omega), HPX.out _ HX6.out⟩
   have := HS5.out
   have := HS6.out
   simp only [ByteArray.size_append, bsz]; simp; omega
 ·obtain ⟨ck0, ck1, ck2, ck3⟩ := HK4.out
  go_wp2_with fail
  go_at_call 83
  refine (Ter.at HPT.out.W HSC.out (by omega) (Cl2.px HNE.out) _ _ _ HR4.out HX4.out HK4.out (by omega) (by omega)).mono ?_
  rintro e w5 ⟨s5, rfl, hs5, hr5, hp5, hk5⟩
  have hz5 : s5.size ≤ 400000000 := by omega
  have t5_0 : ¬ 9223372036854775807 < 14 + s5.size := by omega
  have t5_1 : ¬ 9223372036854775807 < 14 + s5.size + 2 := by omega
  have HR5 := hid hr5
  have HX5 := hid hp5
  have HS5 := hid hs5
  have HK5 := hid hk5
  clear hr5 hp5 hs5 hk5
  go_wp2_with fail
  go_ret
  refine ⟨_, rfl, ?_, HR5.out.le (by omega), HPX.out _ HX5.out⟩
  have := HS5.out
  simp only [ByteArray.size_append, bsz]; simp; omega
 ·have HR4d := hid HR4.out.drew
  have HX4d := hid (HX4.out.trans (pxd b w4))
  have HK4d := hid (Cl2.px HNE.out w4 w4.drew _ HR4.out (pxd b w4) HK4.out)
  obtain ⟨ck0, ck1, ck2, ck3⟩ := HK4.out
  go_wp2_with fail
  go_region_held3 (fun w' => w'.cell? ⟨w.heap.size, 0, none⟩ = some (.slice p n c) ∧ w'.cell? ⟨w.heap.size, 1, none⟩ = some (.slice q n e) ∧ w'.cell? ⟨g0, o0, none⟩ = some (.string x.text) ∧ w'.cell? ⟨g0, o0 + 1, none⟩ = some (.string y.text))
   (first | exact HK4d.out | exact HK5.out | exact HK6.out | exact HK7.out | exact HK8.out)
   (first
     | (have _ := HR7
        go_at_call 83
        refine (Ter.at HPT.out.W HM7.out (by omega) (Cl2.px HNE.out) _ _ _ HR7.out (Px.refl _ _) HK7.out (by omega) (by omega)).mono ?_
        rintro e w8 ⟨s8, rfl, hs8, hr8, hp8, hk8⟩
        have hz8 : s8.size ≤ 400000000 := by omega
        have t8_0 : ¬ 9223372036854775807 < 7 + s5.size + 1 + s3.size + 3 + s8.size := by omega
        have t8_1 : ¬ 9223372036854775807 < 7 + s5.size + 1 + s3.size + 3 + s8.size + 1 := by omega
        have HR8 := hid hr8
        have HX8 := hid (HX7.out.trans hp8)
        have HS8 := hid hs8
        have HK8 := hid hk8
        clear hr8 hp8 hs8 hk8)
     | (have _ := HR6
        go_at_call 120
        refine (mor (wB := wB) HM6.out (by omega) (Cl2.px HNE.out) _ _ (by decide) _ _ HR6.out (Px.refl _ _) HX6.out HK6.out).mono ?_
        rintro e w7 ⟨p7, q7, c7, d7, rfl, hm7, hr7, hp7, hk7⟩
        have HR7 := hid hr7
        have HX7 := hid hp7
        have HM7 := hid hm7
        have HK7 := hid hk7
        clear hr7 hp7 hm7 hk7)
     | (have _ := HR5
        go_at_call 120
        refine (mor (wB := wB) HSC.out (by omega) (Cl2.px HNE.out) _ _ (Nat.le_trans HS3.out (by decide)) _ _ HR5.out HX5.out HX5.out HK5.out).mono ?_
        rintro e w6 ⟨p6, q6, c6, d6, rfl, hm6, hr6, hp6, hk6⟩
        have HR6 := hid hr6
        have HX6 := hid hp6
        have HM6 := hid hm6
        have HK6 := hid hk6
        clear hr6 hp6 hm6 hk6)
     | (go_at_call 114
        refine (Ter.at HPT.out.VP HSC.out (by omega) (Cl2.px HNE.out) _ _ _ HR4d.out HX4d.out HK4d.out (by omega) (by omega)).mono ?_
        rintro e w5 ⟨s5, rfl, hs5, hr5, hp5, hk5⟩
        have hz5 : s5.size ≤ 400000000 := by omega
        have t5_0 : ¬ 9223372036854775807 < 7 + s5.size := by omega
        have t5_1 : ¬ 9223372036854775807 < 7 + s5.size + 1 := by omega
        have t5_2 : ¬ 9223372036854775807 < 7 + s5.size + 1 + s3.size := by omega
        have t5_3 : ¬ 9223372036854775807 < 7 + s5.size + 1 + s3.size + 3 := by omega
        have HR5 := hid hr5
        have HX5 := hid hp5
        have HS5 := hid hs5
        have HK5 := hid hk5
        clear hr5 hp5 hs5 hk5))
  all_goals
   go_wp2_with fail
   go_ret
   refine ⟨_, rfl, ?_, HR8.out.le (by omega), HPX.out _ HX8.out⟩
   have := HS3.out
   have := HS5.out
   have := HS8.out
   simp only [ByteArray.size_append, bsz]; simp; omega
 ·have t4_0 : ¬ 9223372036854775807 < 3 + want.size := by omega
  have t4_1 : ¬ 9223372036854775807 < 3 + want.size + 1 := by omega
  have t4_2 : ¬ 9223372036854775807 < 3 + want.size + 1 + want.size := by omega
  have t4_3 : ¬ 9223372036854775807 < 3 + want.size + 1 + want.size + 1 := by omega
  have HR4d := hid HR4.out.drew
  have HX4d := hid (HX4.out.trans (pxd b w4))
  have HK4d := hid (Cl2.px HNE.out w4 w4.drew _ HR4.out (pxd b w4) HK4.out)
  obtain ⟨ck0, ck1, ck2, ck3⟩ := HK4.out
  go_wp2_with fail
  go_region_held3 (fun w' => w'.cell? ⟨w.heap.size, 0, none⟩ = some (.slice p n c) ∧ w'.cell? ⟨w.heap.size, 1, none⟩ = some (.slice q n e) ∧ w'.cell? ⟨g0, o0, none⟩ = some (.string x.text) ∧ w'.cell? ⟨g0, o0 + 1, none⟩ = some (.string y.text))
   (first | exact HK4d.out | exact Cl2.px HNE.out _ _ _ HR4d.out ((Px.refl b _).alloc _) HK4d.out | exact HK5.out | exact HK6.out)
   (first
     | (have _ := HR5
        go_at_call 83
        refine (Ter.at HPT.out.C HSC.out (by omega) (Cl2.px HNE.out) _ _ _ HR5.out HX5.out HK5.out (by omega) (by omega)).mono ?_
        rintro e w6 ⟨s6, rfl, hs6, hr6, hp6, hk6⟩
        have hz6 : s6.size ≤ 400000000 := by omega
        have t6_0 : ¬ 9223372036854775807 < 1 + s5.size + 1 + s6.size := by omega
        have t6_1 : ¬ 9223372036854775807 < 1 + s5.size + 1 + s6.size + 1 := by omega
        have HR6 := hid hr6
        have HX6 := hid hp6
        have HS6 := hid hs6
        have HK6 := hid hk6
        clear hr6 hp6 hs6 hk6)
     | (go_at_call 40
        refine (rof (HR4d.out.alloc _) (by omega) _ 2 2 3 fsL (fsL_lit2 rfl) (by omega) (by omega) (by have := HR4.out.lt; simp; omega) fsL_small).mono ?_
        rintro e w5 ⟨s5, rfl, hs5, hr5, hp5⟩
        have hz5 : s5.size ≤ 400000000 := by omega
        have t5_0 : ¬ 9223372036854775807 < 1 + s5.size := by omega
        have t5_1 : ¬ 9223372036854775807 < 1 + s5.size + 1 := by omega
        have HX5 := hid ((HX4d.out.alloc _).trans hp5)
        have HK5 := hid (Cl2.px HNE.out _ _ _ (HR4d.out.alloc _) hp5 (Cl2.px HNE.out _ _ _ HR4d.out ((Px.refl b _).alloc _) HK4d.out))
        have HR5 := hid hr5
        have HS5 := hid hs5
        clear hr5 hp5 hs5))
  all_goals
   go_wp2_with fail
   go_ret
   refine ⟨_, rfl, ?_, HR6.out.le (by omega), HPX.out _ HX6.out⟩
   have := HS5.out
   have := HS6.out
   simp only [ByteArray.size_append, bsz]; simp; omega
 ·have HR4d := hid HR4.out.drew
  have HX4d := hid (HX4.out.trans (pxd b w4))
  have HK4d := hid (Cl2.px HNE.out w4 w4.drew _ HR4.out (pxd b w4) HK4.out)
  obtain ⟨ck0, ck1, ck2, ck3⟩ := HK4.out
  go_wp2_with fail
  go_region_held3 (fun w' => w'.cell? ⟨w.heap.size, 0, none⟩ = some (.slice p n c) ∧ w'.cell? ⟨w.heap.size, 1, none⟩ = some (.slice q n e) ∧ w'.cell? ⟨g0, o0, none⟩ = some (.string x.text) ∧ w'.cell? ⟨g0, o0 + 1, none⟩ = some (.string y.text))
   (first | exact HK4d.out | exact HK5.out | exact HK6.out)
   (first
     | (have _ := HR5
        go_at_call 83
        refine (Ter.at HKM.out HSC.out (by omega) (Cl2.px HNE.out) _ _ _ HR5.out HX5.out HK5.out (by omega) (by omega)).mono ?_
        rintro e w6 ⟨s6, rfl, hs6, hr6, hp6, hk6⟩
        have hz6 : s6.size ≤ 400000000 := by omega
        have t6_0 : ¬ 9223372036854775807 < 6 + s5.size + 1 + s6.size := by omega
        have t6_1 : ¬ 9223372036854775807 < 6 + s5.size + 1 + s6.size + 1 := by omega
        have HR6 := hid hr6
        have HX6 := hid hp6
        have HS6 := hid hs6
        have HK6 := hid hk6
        clear hr6 hp6 hs6 hk6)
     | (go_at_call 83
        refine (Ter.at HKM0.out HSC.out (by omega) (Cl2.px HNE.out) _ _ _ HR4d.out HX4d.out HK4d.out (by omega) (by omega)).mono ?_
        rintro e w5 ⟨s5, rfl, hs5, hr5, hp5, hk5⟩
        have hz5 : s5.size ≤ 400000000 := by omega
        have t5_0 : ¬ 9223372036854775807 < 6 + s5.size := by omega
        have t5_1 : ¬ 9223372036854775807 < 6 + s5.size + 1 := by omega
        have HR5 := hid hr5
        have HX5 := hid hp5
        have HS5 := hid hs5
        have HK5 := hid hk5
        clear hr5 hp5 hs5 hk5))
  all_goals
   go_wp2_with fail
   go_ret
   refine ⟨_, rfl, ?_, HR6.out.le (by omega), HPX.out _ HX6.out⟩
   have := HS5.out
   have := HS6.out
   simp only [ByteArray.size_append, bsz]; simp; omega
 ·go_wp2_with fail
  go_at_call 41
  refine (pic HR4.out (by omega) 3 (by omega)).mono ?_
  rintro e w5 ⟨x5, rfl, hx5a, hx5b, _, hr5, hp5⟩
  have HK5 := hid (Cl2.px HNE.out w4 w5 _ HR4.out hp5 HK4.out)
  have HR5 := hid hr5
  have HX5 := hid (HX4.out.trans hp5)
  clear hr5 hp5 hx5b
  by_cases hz : x5 = 0
  ·subst hz
   go_wp2_with fail
   go_ret
   refine ⟨_, rfl, ?_, HR5.out.le (by omega), HPX.out _ HX5.out⟩
   simp only [ByteArray.size_append, bsz]; simp; omega
  ·have hzf : (x5 == 0) = false := beq_eq_false_iff_ne.2 hz
   clear hz
   have HR5d := hid HR5.out.drew
   have HX5d := hid (HX5.out.trans (pxd b w5))
   have HK5d := hid (Cl2.px HNE.out w5 w5.drew _ HR5.out (pxd b w5) HK5.out)
   obtain ⟨ck0, ck1, ck2, ck3⟩ := HK5.out
   go_wp2_with fail
   go_region_held3 (fun w' => w'.cell? ⟨w.heap.size, 0, none⟩ = some (.slice p n c) ∧ w'.cell? ⟨w.heap.size, 1, none⟩ = some (.slice q n e) ∧ w'.cell? ⟨g0, o0, none⟩ = some (.string x.text) ∧ w'.cell? ⟨g0, o0 + 1, none⟩ = some (.string y.text))
    (first | exact HK5d.out | exact HK6.out | exact HK7.out)
    (first
      | (have _ := HR6
         go_at_call 83
         refine (Ter.at HKM.out HSC.out (by omega) (Cl2.px HNE.out) _ _ _ HR6.out HX6.out HK6.out (by omega) (by omega)).mono ?_
         rintro e w7 ⟨s7, rfl, hs7, hr7, hp7, hk7⟩
         have hz7 : s7.size ≤ 400000000 := by omega
         have t7_0 : ¬ 9223372036854775807 < 6 + s6.size + 1 + s7.size := by omega
         have t7_1 : ¬ 9223372036854775807 < 6 + s6.size + 1 + s7.size + 1 := by omega
         have HR7 := hid hr7
         have HX7 := hid hp7
         have HS7 := hid hs7
         have HK7 := hid hk7
         clear hr7 hp7 hs7 hk7)
      | (go_at_call 83
         refine (Ter.at HKM0.out HSC.out (by omega) (Cl2.px HNE.out) _ _ _ HR5d.out HX5d.out HK5d.out (by omega) (by omega)).mono ?_
         rintro e w6 ⟨s6, rfl, hs6, hr6, hp6, hk6⟩
         have hz6 : s6.size ≤ 400000000 := by omega
         have t6_0 : ¬ 9223372036854775807 < 6 + s6.size := by omega
         have t6_1 : ¬ 9223372036854775807 < 6 + s6.size + 1 := by omega
         have HR6 := hid hr6
         have HX6 := hid hp6
         have HS6 := hid hs6
         have HK6 := hid hk6
         clear hr6 hp6 hs6 hk6))
   all_goals
    go_wp2_with fail
    go_ret
    refine ⟨_, rfl, ?_, HR7.out.le (by omega), HPX.out _ HX7.out⟩
    have := HS6.out
    have := HS7.out
    simp only [ByteArray.size_append, bsz]; simp; omega
 ·have HR4d := hid HR4.out.drew
  have HX4d := hid (HX4.out.trans (pxd b w4))
  have HK4d := hid (Cl2.px HNE.out w4 w4.drew _ HR4.out (pxd b w4) HK4.out)
  obtain ⟨ck0, ck1, ck2, ck3⟩ := HK4.out
  go_wp2_with fail
  go_region_held3 (fun w' => w'.cell? ⟨w.heap.size, 0, none⟩ = some (.slice p n c) ∧ w'.cell? ⟨w.heap.size, 1, none⟩ = some (.slice q n e) ∧ w'.cell? ⟨g0, o0, none⟩ = some (.string x.text) ∧ w'.cell? ⟨g0, o0 + 1, none⟩ = some (.string y.text))
   (first | exact HK4d.out | exact HK5.out | exact HK6.out)
   (first
     | (have _ := HR5
        go_at_call 83
        refine (Ter.at HKM.out HSC.out (by omega) (Cl2.px HNE.out) _ _ _ HR5.out HX5.out HK5.out (by omega) (by omega)).mono ?_
        rintro e w6 ⟨s6, rfl, hs6, hr6, hp6, hk6⟩
        have hz6 : s6.size ≤ 400000000 := by omega
        have t6_0 : ¬ 9223372036854775807 < 6 + s5.size + 1 + s6.size := by omega
        have t6_1 : ¬ 9223372036854775807 < 6 + s5.size + 1 + s6.size + 1 := by omega
        have HR6 := hid hr6
        have HX6 := hid hp6
        have HS6 := hid hs6
        have HK6 := hid hk6
        clear hr6 hp6 hs6 hk6)
     | (go_at_call 83
        refine (Ter.at HKM0.out HSC.out (by omega) (Cl2.px HNE.out) _ _ _ HR4d.out HX4d.out HK4d.out (by omega) (by omega)).mono ?_
        rintro e w5 ⟨s5, rfl, hs5, hr5, hp5, hk5⟩
        have hz5 : s5.size ≤ 400000000 := by omega
        have t5_0 : ¬ 9223372036854775807 < 6 + s5.size := by omega
        have t5_1 : ¬ 9223372036854775807 < 6 + s5.size + 1 := by omega
        have HR5 := hid hr5
        have HX5 := hid hp5
        have HS5 := hid hs5
        have HK5 := hid hk5
        clear hr5 hp5 hs5 hk5))
  all_goals
   go_wp2_with fail
   go_ret
   refine ⟨_, rfl, ?_, HR6.out.le (by omega), HPX.out _ HX6.out⟩
   have := HS5.out
   have := HS6.out
   simp only [ByteArray.size_append, bsz]; simp; omega
 ·have HR4d := hid HR4.out.drew
  have HX4d := hid (HX4.out.trans (pxd b w4))
  have HK4d := hid (Cl2.px HNE.out w4 w4.drew _ HR4.out (pxd b w4) HK4.out)
  obtain ⟨ck0, ck1, ck2, ck3⟩ := HK4.out
  go_wp2_with fail
  go_region_held3 (fun w' => w'.cell? ⟨w.heap.size, 0, none⟩ = some (.slice p n c) ∧ w'.cell? ⟨w.heap.size, 1, none⟩ = some (.slice q n e) ∧ w'.cell? ⟨g0, o0, none⟩ = some (.string x.text) ∧ w'.cell? ⟨g0, o0 + 1, none⟩ = some (.string y.text))
   (first | exact HK4d.out | exact HK5.out | exact HK6.out)
   (first
     | (have _ := HR5
        go_at_call 83
        refine (Ter.at HKM.out HSC.out (by omega) (Cl2.px HNE.out) _ _ _ HR5.out HX5.out HK5.out (by omega) (by omega)).mono ?_
        rintro e w6 ⟨s6, rfl, hs6, hr6, hp6, hk6⟩
        have hz6 : s6.size ≤ 400000000 := by omega
        have t6_0 : ¬ 9223372036854775807 < 6 + s5.size + 1 + s6.size := by omega
        have t6_1 : ¬ 9223372036854775807 < 6 + s5.size + 1 + s6.size + 1 := by omega
        have HR6 := hid hr6
        have HX6 := hid hp6
        have HS6 := hid hs6
        have HK6 := hid hk6
        clear hr6 hp6 hs6 hk6)
     | (go_at_call 83
        refine (Ter.at HKM0.out HSC.out (by omega) (Cl2.px HNE.out) _ _ _ HR4d.out HX4d.out HK4d.out (by omega) (by omega)).mono ?_
        rintro e w5 ⟨s5, rfl, hs5, hr5, hp5, hk5⟩
        have hz5 : s5.size ≤ 400000000 := by omega
        have t5_0 : ¬ 9223372036854775807 < 6 + s5.size := by omega
        have t5_1 : ¬ 9223372036854775807 < 6 + s5.size + 1 := by omega
        have HR5 := hid hr5
        have HX5 := hid hp5
        have HS5 := hid hs5
        have HK5 := hid hk5
        clear hr5 hp5 hs5 hk5))
  all_goals
   go_wp2_with fail
   go_ret
   refine ⟨_, rfl, ?_, HR6.out.le (by omega), HPX.out _ HX6.out⟩
   have := HS5.out
   have := HS6.out
   simp only [ByteArray.size_append, bsz]; simp; omega
 ·have HR4d := hid HR4.out.drew
  have HX4d := hid (HX4.out.trans (pxd b w4))
  have HK4d := hid (Cl2.px HNE.out w4 w4.drew _ HR4.out (pxd b w4) HK4.out)
  obtain ⟨ck0, ck1, ck2, ck3⟩ := HK4.out
  go_wp2_with fail
  go_region_held3 (fun w' => w'.cell? ⟨w.heap.size, 0, none⟩ = some (.slice p n c) ∧ w'.cell? ⟨w.heap.size, 1, none⟩ = some (.slice q n e) ∧ w'.cell? ⟨g0, o0, none⟩ = some (.string x.text) ∧ w'.cell? ⟨g0, o0 + 1, none⟩ = some (.string y.text))
   (first | exact HK4d.out | exact HK5.out | exact HK6.out)
   (first
     | (have _ := HR5
        go_at_call 83
        refine (Ter.at HKM.out HSC.out (by omega) (Cl2.px HNE.out) _ _ _ HR5.out HX5.out HK5.out (by omega) (by omega)).mono ?_
        rintro e w6 ⟨s6, rfl, hs6, hr6, hp6, hk6⟩
        have hz6 : s6.size ≤ 400000000 := by omega
        have t6_0 : ¬ 9223372036854775807 < 6 + s5.size + 1 + s6.size := by omega
        have t6_1 : ¬ 9223372036854775807 < 6 + s5.size + 1 + s6.size + 1 := by omega
        have HR6 := hid hr6
        have HX6 := hid hp6
        have HS6 := hid hs6
        have HK6 := hid hk6
        clear hr6 hp6 hs6 hk6)
     | (go_at_call 83
        refine (Ter.at HKM0.out HSC.out (by omega) (Cl2.px HNE.out) _ _ _ HR4d.out HX4d.out HK4d.out (by omega) (by omega)).mono ?_
        rintro e w5 ⟨s5, rfl, hs5, hr5, hp5, hk5⟩
        have hz5 : s5.size ≤ 400000000 := by omega
        have t5_0 : ¬ 9223372036854775807 < 6 + s5.size := by omega
        have t5_1 : ¬ 9223372036854775807 < 6 + s5.size + 1 := by omega
        have HR5 := hid hr5
        have HX5 := hid hp5
        have HS5 := hid hs5
        have HK5 := hid hk5
        clear hr5 hp5 hs5 hk5))
  all_goals
   go_wp2_with fail
   go_ret
   refine ⟨_, rfl, ?_, HR6.out.le (by omega), HPX.out _ HX6.out⟩
   have := HS5.out
   have := HS6.out
   simp only [ByteArray.size_append, bsz]; simp; omega
end Go.Proofs.YtfogjomebcponaaGreatDoor
