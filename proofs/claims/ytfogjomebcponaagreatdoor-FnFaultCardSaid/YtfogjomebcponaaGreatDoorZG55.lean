/- Merged: DrwL, DrwMa, DrwP, DrwQ. -/
import Derived.Test.YtfogjomebcponaaGreatDoorZG51
import Derived.Test.YtfogjomebcponaaGreatDoorZGc30
import Derived.Test.YtfogjomebcponaaGreatDoorZGc31
namespace Go.Proofs.YtfogjomebcponaaGreatDoor
open Go.RowKit
set_option maxRecDepth 100000
set_option maxHeartbeats 4000000
def Lea (b : Nat) (want : ByteArray) (S : Nat) : Prop :=
 ∀ (r : Nat) (W : World) (p q : Option Addr) (n c e : Nat) (ns ts : List ByteArray), Scp W p q n c e ns ts → Rd W b r → r + S ≤ 400000000 → n ≤ 18 →
  Calls Tryz.prog 118 #[.pointer (some ⟨b, 0, none⟩), .agg #[.slice p n c, .slice q n e], .string want] W (Drawn b (r + S) S W)
theorem of_size {s : ByteArray} {ty : Ty} (h : readTy s = some ty) : (SW ty).size ≤ 120 := by
 rw [sw_size]
 have h1 := sim ty
 have h2 := readTy_atoms h
 omega
theorem leaf_ret {b S0 S : Nat} {want : ByteArray} {x : Ty} (hread : readTy want = some (.ret x)) (hV : Ter 114 b 0 x.text S0) (hS : S0 + 20 ≤ S) (hS2 : want.size ≤ S) (hS3 : S ≤ 400000000) : Lea b want S := by
 intro r w p q n c e ns ts hsc hr hq hn
 have HKV := hid hV
 have hwz : want.size ≤ 400000000 := by omega
 have HKD := hid (fun W => (spc want hwz W).mono fun e w' h => lwk h)
 rw [hread] at HKD
 have HKD2 := hid (fun W => (show Calls Tryz.prog 117 #[.string want] W (KdPost [x] 1 true W) from HKD.out W))
 have HHD := hid (fun W => (show Calls Tryz.prog 103 #[.string want] W fun e w' => e = .returned (.string ({ data := #[102] } : ByteArray)) ∧ Below W.heap.size W w' from by have h1 := spe want hwz W; rw [hread] at h1; exact h1))
 obtain ⟨wB, hwB⟩ : ∃ W, (w.alloc (.cells #[.slice p n c, .slice q n e] 114)) = W := ⟨_, rfl⟩
 have HWB := hid hwB
 have HPX := hid (fun (W : World) (hx : Px b wB W) => (show Px b w W from (show Px b w wB from by rw [← hwB]; exact (Px.refl b w).alloc _).trans hx))
 have HSC := hid (fun (W : World) (hx : Px b wB W) => hsc.px hr (HPX.out W hx))
 have HR0 := hid (show Rd wB b r from by rw [← hwB]; exact hr.alloc _)
 have HX0 := hid (Px.refl b wB)
 have HNE := hid (show w.heap.size ≠ b from by have := hr.lt; omega)
 have HK0 := hid (show Cl0 w.heap.size p q n c e wB from by rw [← hwB]; have h := cel (hea w (.cells #[.slice p n c, .slice q n e] 114) _ rfl); exact ⟨h.1, h.2.1⟩)
 clear hread hV hsc hr HKD hwB
 go_enter Tryz.func118, Tryz.ntmps118
 go_wp2_with fail
 rw [HWB.out]
 go_at_call 117
 refine (HKD2.out _).mono ?_
 rintro e w1 ⟨q1, d1, rfl, hv1, hu1, hb1⟩
 obtain ⟨g0, o0, hbo, hc0⟩ := hv1 0 (.string x.text) rfl
 subst hbo
 have hc0 : w1.cell? ⟨g0, o0, none⟩ = some (.string x.text) := hc0
 have HR1 := hid (HR0.out.below hb1 HR0.out.lt (Nat.le_refl _))
 have hp1 : Px b wB w1 := Px.below hb1 (Nat.le_refl _)
 have HX1 := hid hp1
 have hk1 := Cl0.px HNE.out wB w1 _ HR0.out hp1 HK0.out
 have HK1 := hid (show Cl1 w.heap.size p q n c e g0 o0 x.text w1 from ⟨hk1.1, hk1.2, hc0⟩)
 clear hv1 hu1 hb1 hp1 hk1 hc0
 go_wp2_with fail
 go_at_call 103
 refine (HHD.out _).mono ?_
 rintro e w2 ⟨rfl, hb2⟩
 have hp2 : Px b w1 w2 := Px.below hb2 (Nat.le_refl _)
 have HK2 := hid (Cl1.px HNE.out w1 w2 _ HR1.out hp2 HK1.out)
 have HR2 := hid (HR1.out.below hb2 HR1.out.lt (Nat.le_refl _))
 have HX2 := hid (HX1.out.trans hp2)
 clear hb2 hp2
 have HR2d := hid HR2.out.drew
 have HX2d := hid (HX2.out.trans (pxd b w2))
 have HK2d := hid (Cl1.px HNE.out w2 w2.drew _ HR2.out (pxd b w2) HK2.out)
 obtain ⟨ck0, ck1, ck2⟩ := HK2.out
 go_wp2_with fail
 go_region_held3 (fun w' => w'.cell? ⟨w.heap.size, 0, none⟩ = some (.slice p n c) ∧ w'.cell? ⟨w.heap.size, 1, none⟩ = some (.slice q n e) ∧ w'.cell? ⟨g0, o0, none⟩ = some (.string x.text))
  (first | exact HK2d.out | exact HK3.out)
  (first
    | (go_at_call 114
       refine (Ter.at HKV.out HSC.out (by omega) (Cl1.px HNE.out) _ _ _ HR2d.out HX2d.out HK2d.out (by omega) (by omega)).mono ?_
       rintro e w3 ⟨s3, rfl, hs3, hr3, hp3, hk3⟩
       have hz3 : s3.size ≤ 400000000 := by omega
       have t3_0 : ¬ 9223372036854775807 < 8 + s3.size := by omega
       have t3_1 : ¬ 9223372036854775807 < 8 + s3.size + 1 := by omega
       have HR3 := hid hr3
       have HX3 := hid hp3
       have HS3 := hid hs3
       have HK3 := hid hk3
       clear hr3 hp3 hs3 hk3))
 all_goals
  go_wp2_with fail
  go_ret
  refine ⟨_, rfl, ?_, HR3.out.le (by omega), HPX.out _ HX3.out⟩
  have := HS3.out
  simp only [ByteArray.size_append, bsz]; simp; omega
theorem leaf_none {b S : Nat} {want : ByteArray} (hread : readTy want = none) (hS2 : want.size + 200 ≤ S) : Lea b want S := by
 intro r w p q n c e ns ts hsc hr hq hn
 have hwz : want.size ≤ 400000000 := by omega
 have HKD := hid (fun W => (spc want hwz W).mono fun e w' h => lwk h)
 rw [hread] at HKD
 have HKD2 := hid (fun W => (show Calls Tryz.prog 117 #[.string want] W (KdPost [] 0 false W) from HKD.out W))
 have HHD := hid (fun W => (show Calls Tryz.prog 103 #[.string want] W fun e w' => e = .returned (.string ByteArray.empty) ∧ Below W.heap.size W w' from by have h1 := spe want hwz W; rw [hread] at h1; exact h1))
 have HOF := hid (fun W => (show Calls Tryz.prog 140 #[.string want] W fun e w' => e = .returned (.tuple #[.string (ByteArray.empty), .bool false]) ∧ Below W.heap.size W w' from by have h1 := specTermOf_any want hwz W; rw [hread] at h1; exact h1))
 obtain ⟨wB, hwB⟩ : ∃ W, (w.alloc (.cells #[.slice p n c, .slice q n e] 114)) = W := ⟨_, rfl⟩
 have HWB := hid hwB
 have HPX := hid (fun (W : World) (hx : Px b wB W) => (show Px b w W from (show Px b w wB from by rw [← hwB]; exact (Px.refl b w).alloc _).trans hx))
 have HSC := hid (fun (W : World) (hx : Px b wB W) => hsc.px hr (HPX.out W hx))
 have HR0 := hid (show Rd wB b r from by rw [← hwB]; exact hr.alloc _)
 have HX0 := hid (Px.refl b wB)
 have HNE := hid (show w.heap.size ≠ b from by have := hr.lt; omega)
 have HK0 := hid (show Cl0 w.heap.size p q n c e wB from by rw [← hwB]; have h := cel (hea w (.cells #[.slice p n c, .slice q n e] 114) _ rfl); exact ⟨h.1, h.2.1⟩)
 clear hread hsc hr HKD hwB
 go_enter Tryz.func118, Tryz.ntmps118
 go_wp2_with fail
 rw [HWB.out]
 go_at_call 117
 refine (HKD2.out _).mono ?_
 rintro e w1 ⟨q1, d1, rfl, hv1, hu1, hb1⟩
 have HR1 := hid (HR0.out.below hb1 HR0.out.lt (Nat.le_refl _))
 have HX1 := hid (show Px b wB w1 from Px.below hb1 (Nat.le_refl _))
 clear hv1 hu1 hb1
 go_wp2_with fail
 go_at_call 103
 refine (HHD.out _).mono ?_
 rintro e w2 ⟨rfl, hb2⟩
 have HR2 := hid (HR1.out.below hb2 HR1.out.lt (Nat.le_refl _))
 have HX2 := hid (HX1.out.trans (Px.below hb2 (Nat.le_refl _)))
 clear hb2
 go_wp2_with fail
 go_at_call 41
 refine (pic HR2.out (by omega) 4 (by omega)).mono ?_
 rintro e w3 ⟨x3, rfl, hx3a, hx3b, _, hr3, hp3⟩
 have HR3 := hid hr3
 have HX3 := hid (HX2.out.trans hp3)
 clear hr3 hp3 hx3b
 by_cases hz : x3 = 0
 ·subst hz
  go_wp2_with fail
  go_ret
  refine ⟨_, rfl, ?_, HR3.out.le (by omega), HPX.out _ HX3.out⟩
  simp only [ByteArray.size_append, bsz]; simp; omega
 ·have hzf : (x3 == 0) = false := beq_eq_false_iff_ne.2 hz
  clear hz
  go_wp2_with fail
  go_at_call 140
  refine (HOF.out _).mono ?_
  rintro e w4 ⟨rfl, hb4⟩
  have HR4 := hid (HR3.out.below hb4 HR3.out.lt (Nat.le_refl _))
  have HX4 := hid (HX3.out.trans (Px.below hb4 (Nat.le_refl _)))
  clear hb4
  go_wp2_with fail
  go_ret
  exact ⟨_, rfl, by simp [bsz]; omega, HR4.out.le (by omega), HPX.out _ HX4.out⟩
theorem leaf_fn {b S : Nat} {want : ByteArray} {x y : Ty} (hread : readTy want = some (.fn x y)) (hS2 : want.size + 200 ≤ S) : Lea b want S := by
 intro r w p q n c e ns ts hsc hr hq hn
 have hwz : want.size ≤ 400000000 := by omega
 have hof := of_size hread
 have HKD := hid (fun W => (spc want hwz W).mono fun e w' h => lwk h)
 rw [hread] at HKD
 have HKD2 := hid (fun W => (show Calls Tryz.prog 117 #[.string want] W (KdPost [x, y] 2 true W) from HKD.out W))
 have HHD := hid (fun W => (show Calls Tryz.prog 103 #[.string want] W fun e w' => e = .returned (.string ({ data := #[62] } : ByteArray)) ∧ Below W.heap.size W w' from by have h1 := spe want hwz W; rw [hread] at h1; exact h1))
 have HOF := hid (fun W => (show Calls Tryz.prog 140 #[.string want] W fun e w' => e = .returned (.tuple #[.string (SW (.fn x y)), .bool true]) ∧ Below W.heap.size W w' from by have h1 := specTermOf_any want hwz W; rw [hread] at h1; exact h1))
 obtain ⟨Z, hZ⟩ : ∃ Z, SW (.fn x y) = Z := ⟨_, rfl⟩
 rw [hZ] at HOF hof
 obtain ⟨wB, hwB⟩ : ∃ W, (w.alloc (.cells #[.slice p n c, .slice q n e] 114)) = W := ⟨_, rfl⟩
 have HWB := hid hwB
 have HPX := hid (fun (W : World) (hx : Px b wB W) => (show Px b w W from (show Px b w wB from by rw [← hwB]; exact (Px.refl b w).alloc _).trans hx))
 have HSC := hid (fun (W : World) (hx : Px b wB W) => hsc.px hr (HPX.out W hx))
 have HR0 := hid (show Rd wB b r from by rw [← hwB]; exact hr.alloc _)
 have HX0 := hid (Px.refl b wB)
 have HNE := hid (show w.heap.size ≠ b from by have := hr.lt; omega)
 have HK0 := hid (show Cl0 w.heap.size p q n c e wB from by rw [← hwB]; have h := cel (hea w (.cells #[.slice p n c, .slice q n e] 114) _ rfl); exact ⟨h.1, h.2.1⟩)
 clear hread hsc hr HKD hwB hZ
 go_enter Tryz.func118, Tryz.ntmps118
 go_wp2_with fail
 rw [HWB.out]
 go_at_call 117
 refine (HKD2.out _).mono ?_
 rintro e w1 ⟨q1, d1, rfl, hv1, hu1, hb1⟩
 have HR1 := hid (HR0.out.below hb1 HR0.out.lt (Nat.le_refl _))
 have HX1 := hid (show Px b wB w1 from Px.below hb1 (Nat.le_refl _))
 clear hv1 hu1 hb1
 go_wp2_with fail
 go_at_call 103
 refine (HHD.out _).mono ?_
 rintro e w2 ⟨rfl, hb2⟩
 have HR2 := hid (HR1.out.below hb2 HR1.out.lt (Nat.le_refl _))
 have HX2 := hid (HX1.out.trans (Px.below hb2 (Nat.le_refl _)))
 clear hb2
 go_wp2_with fail
 go_at_call 41
 refine (pic HR2.out (by omega) 4 (by omega)).mono ?_
 rintro e w3 ⟨x3, rfl, hx3a, hx3b, _, hr3, hp3⟩
 have HR3 := hid hr3
 have HX3 := hid (HX2.out.trans hp3)
 clear hr3 hp3 hx3b
 by_cases hz : x3 = 0
 ·subst hz
  go_wp2_with fail
  go_ret
  refine ⟨_, rfl, ?_, HR3.out.le (by omega), HPX.out _ HX3.out⟩
  simp only [ByteArray.size_append, bsz]; simp; omega
 ·have hzf : (x3 == 0) = false := beq_eq_false_iff_ne.2 hz
  clear hz
  go_wp2_with fail
  go_at_call 140
  refine (HOF.out _).mono ?_
  rintro e w4 ⟨rfl, hb4⟩
  have HR4 := hid (HR3.out.below hb4 HR3.out.lt (Nat.le_refl _))
  have HX4 := hid (HX3.out.trans (Px.below hb4 (Nat.le_refl _)))
  clear hb4
  go_wp2_with fail
  go_ret
  exact ⟨_, rfl, by omega, HR4.out.le (by omega), HPX.out _ HX4.out⟩
theorem leaf_choice {b S : Nat} {want : ByteArray} {x y : Ty} (hread : readTy want = some (.choice x y)) (hS2 : want.size + 200 ≤ S) : Lea b want S := by
 intro r w p q n c e ns ts hsc hr hq hn
 have hwz : want.size ≤ 400000000 := by omega
 have hof := of_size hread
 have HKD := hid (fun W => (spc want hwz W).mono fun e w' h => lwk h)
 rw [hread] at HKD
 have HKD2 := hid (fun W => (show Calls Tryz.prog 117 #[.string want] W (KdPost [x, y] 2 true W) from HKD.out W))
 have HHD := hid (fun W => (show Calls Tryz.prog 103 #[.string want] W fun e w' => e = .returned (.string ({ data := #[38] } : ByteArray)) ∧ Below W.heap.size W w' from by have h1 := spe want hwz W; rw [hread] at h1; exact h1))
 have HOF := hid (fun W => (show Calls Tryz.prog 140 #[.string want] W fun e w' => e = .returned (.tuple #[.string (SW (.choice x y)), .bool true]) ∧ Below W.heap.size W w' from by have h1 := specTermOf_any want hwz W; rw [hread] at h1; exact h1))
 obtain ⟨Z, hZ⟩ : ∃ Z, SW (.choice x y) = Z := ⟨_, rfl⟩
 rw [hZ] at HOF hof
 obtain ⟨wB, hwB⟩ : ∃ W, (w.alloc (.cells #[.slice p n c, .slice q n e] 114)) = W := ⟨_, rfl⟩
 have HWB := hid hwB
 have HPX := hid (fun (W : World) (hx : Px b wB W) => (show Px b w W from (show Px b w wB from by rw [← hwB]; exact (Px.refl b w).alloc _).trans hx))
 have HSC := hid (fun (W : World) (hx : Px b wB W) => hsc.px hr (HPX.out W hx))
 have HR0 := hid (show Rd wB b r from by rw [← hwB]; exact hr.alloc _)
 have HX0 := hid (Px.refl b wB)
 have HNE := hid (show w.heap.size ≠ b from by have := hr.lt; omega)
 have HK0 := hid (show Cl0 w.heap.size p q n c e wB from by rw [← hwB]; have h := cel (hea w (.cells #[.slice p n c, .slice q n e] 114) _ rfl); exact ⟨h.1, h.2.1⟩)
 clear hread hsc hr HKD hwB hZ
 go_enter Tryz.func118, Tryz.ntmps118
 go_wp2_with fail
 rw [HWB.out]
 go_at_call 117
 refine (HKD2.out _).mono ?_
 rintro e w1 ⟨q1, d1, rfl, hv1, hu1, hb1⟩
 have HR1 := hid (HR0.out.below hb1 HR0.out.lt (Nat.le_refl _))
 have HX1 := hid (show Px b wB w1 from Px.below hb1 (Nat.le_refl _))
 clear hv1 hu1 hb1
 go_wp2_with fail
 go_at_call 103
 refine (HHD.out _).mono ?_
 rintro e w2 ⟨rfl, hb2⟩
 have HR2 := hid (HR1.out.below hb2 HR1.out.lt (Nat.le_refl _))
 have HX2 := hid (HX1.out.trans (Px.below hb2 (Nat.le_refl _)))
 clear hb2
 go_wp2_with fail
 go_at_call 41
 refine (pic HR2.out (by omega) 4 (by omega)).mono ?_
 rintro e w3 ⟨x3, rfl, hx3a, hx3b, _, hr3, hp3⟩
 have HR3 := hid hr3
 have HX3 := hid (HX2.out.trans hp3)
 clear hr3 hp3 hx3b
 by_cases hz : x3 = 0
 ·subst hz
  go_wp2_with fail
  go_ret
  refine ⟨_, rfl, ?_, HR3.out.le (by omega), HPX.out _ HX3.out⟩
  simp only [ByteArray.size_append, bsz]; simp; omega
 ·have hzf : (x3 == 0) = false := beq_eq_false_iff_ne.2 hz
  clear hz
  go_wp2_with fail
  go_at_call 140
  refine (HOF.out _).mono ?_
  rintro e w4 ⟨rfl, hb4⟩
  have HR4 := hid (HR3.out.below hb4 HR3.out.lt (Nat.le_refl _))
  have HX4 := hid (HX3.out.trans (Px.below hb4 (Nat.le_refl _)))
  clear hb4
  go_wp2_with fail
  go_ret
  exact ⟨_, rfl, by omega, HR4.out.le (by omega), HPX.out _ HX4.out⟩
theorem mleaf_none0 {b S : Nat} {want : ByteArray} (hread : readTy want = none) (hL : Lea b want S) (hS2 : want.size + 200 ≤ S) : Ter 83 b 0 want S := by
 intro r w p q n c e ns ts j hsc hr hq hn hj
 have HLF := hid hL
 have hwz : want.size ≤ 400000000 := by omega
 have HKD := hid (fun W => (spc want hwz W).mono fun e w' h => lwk h)
 rw [hread] at HKD
 have HKD2 := hid (fun W => (show Calls Tryz.prog 117 #[.string want] W (KdPost [] 0 false W) from HKD.out W))
 have HHD := hid (fun W => (show Calls Tryz.prog 103 #[.string want] W fun e w' => e = .returned (.string ByteArray.empty) ∧ Below W.heap.size W w' from by have h1 := spe want hwz W; rw [hread] at h1; exact h1))
 obtain ⟨wB, hwB⟩ : ∃ W, (w.alloc (.cells #[.slice p n c, .slice q n e] 114)) = W := ⟨_, rfl⟩
 have HWB := hid hwB
 have HPX := hid (fun (W : World) (hx : Px b wB W) => (show Px b w W from (show Px b w wB from by rw [← hwB]; exact (Px.refl b w).alloc _).trans hx))
 have HSC := hid (fun (W : World) (hx : Px b wB W) => hsc.px hr (HPX.out W hx))
 have HR0 := hid (show Rd wB b r from by rw [← hwB]; exact hr.alloc _)
 have HX0 := hid (Px.refl b wB)
 have HNE := hid (show w.heap.size ≠ b from by have := hr.lt; omega)
 have HK0 := hid (show Cl0 w.heap.size p q n c e wB from by rw [← hwB]; have h := cel (hea w (.cells #[.slice p n c, .slice q n e] 114) _ rfl); exact ⟨h.1, h.2.1⟩)
 subst hj
 have hd3 : decide ((0 : Int) ≤ 0) = true := by decide
 clear hread hL hsc hr HKD hwB
 go_enter Tryz.func83, Tryz.ntmps83
 go_wp2_with fail
 rw [HWB.out]
 go_at_call 117
 refine (HKD2.out _).mono ?_
 rintro e w1 ⟨q1, d1, rfl, hv1, hu1, hb1⟩
 have HR1 := hid (HR0.out.below hb1 HR0.out.lt (Nat.le_refl _))
 have hp1 : Px b wB w1 := Px.below hb1 (Nat.le_refl _)
 have HX1 := hid hp1
 have HK1 := hid (Cl0.px HNE.out wB w1 _ HR0.out hp1 HK0.out)
 clear hv1 hu1 hb1 hp1
 go_wp2_with fail
 go_at_call 103
 refine (HHD.out _).mono ?_
 rintro e w2 ⟨rfl, hb2⟩
 have hp2 : Px b w1 w2 := Px.below hb2 (Nat.le_refl _)
 obtain ⟨ck0, ck1⟩ := Cl0.px HNE.out w1 w2 _ HR1.out hp2 HK1.out
 have HR2 := hid (HR1.out.below hb2 HR1.out.lt (Nat.le_refl _))
 have HX2 := hid (HX1.out.trans hp2)
 clear hb2 hp2
 go_wp2_with fail
 go_at_call 118
 refine (HLF.out _ _ _ _ _ _ _ _ _ (HSC.out _ HX2.out) HR2.out (by omega) (by omega)).mono ?_
 rintro e w3 ⟨s3, rfl, hs3, hr3, hp3⟩
 have HR3 := hid hr3
 have HX3 := hid (HX2.out.trans hp3)
 clear hr3 hp3
 go_wp2_with fail
 go_ret
 exact ⟨_, rfl, hs3, HR3.out, HPX.out _ HX3.out⟩
theorem mleaf_none {b d S : Nat} {want : ByteArray} (hread : readTy want = none) (hL : Lea b want S) (hS2 : want.size + 200 ≤ S) : Ter 83 b (d + 1) want S := by
 intro r w p q n c e ns ts j hsc hr hq hn hj
 have HLF := hid hL
 have hwz : want.size ≤ 400000000 := by omega
 have HKD := hid (fun W => (spc want hwz W).mono fun e w' h => lwk h)
 rw [hread] at HKD
 have HKD2 := hid (fun W => (show Calls Tryz.prog 117 #[.string want] W (KdPost [] 0 false W) from HKD.out W))
 have HHD := hid (fun W => (show Calls Tryz.prog 103 #[.string want] W fun e w' => e = .returned (.string ByteArray.empty) ∧ Below W.heap.size W w' from by have h1 := spe want hwz W; rw [hread] at h1; exact h1))
 obtain ⟨wB, hwB⟩ : ∃ W, (w.alloc (.cells #[.slice p n c, .slice q n e] 114)) = W := ⟨_, rfl⟩
 have HWB := hid hwB
 have HPX := hid (fun (W : World) (hx : Px b wB W) => (show Px b w W from (show Px b w wB from by rw [← hwB]; exact (Px.refl b w).alloc _).trans hx))
 have HSC := hid (fun (W : World) (hx : Px b wB W) => hsc.px hr (HPX.out W hx))
 have HR0 := hid (show Rd wB b r from by rw [← hwB]; exact hr.alloc _)
 have HX0 := hid (Px.refl b wB)
 have HNE := hid (show w.heap.size ≠ b from by have := hr.lt; omega)
 have HK0 := hid (show Cl0 w.heap.size p q n c e wB from by rw [← hwB]; have h := cel (hea w (.cells #[.slice p n c, .slice q n e] 114) _ rfl); exact ⟨h.1, h.2.1⟩)
 subst hj
 have hd2 : ¬ ((d : Int) + 1 ≤ 0) := by omega
 have hd3 : decide ((d : Int) + 1 ≤ 0) = false := decide_eq_false hd2
 clear hread hL hsc hr HKD hwB
 go_enter Tryz.func83, Tryz.ntmps83
 go_wp2_with fail
 rw [HWB.out]
 go_at_call 117
 refine (HKD2.out _).mono ?_
 rintro e w1 ⟨q1, d1, rfl, hv1, hu1, hb1⟩
 have HR1 := hid (HR0.out.below hb1 HR0.out.lt (Nat.le_refl _))
 have hp1 : Px b wB w1 := Px.below hb1 (Nat.le_refl _)
 have HX1 := hid hp1
 have HK1 := hid (Cl0.px HNE.out wB w1 _ HR0.out hp1 HK0.out)
 clear hv1 hu1 hb1 hp1
 go_wp2_with fail
 go_at_call 103
 refine (HHD.out _).mono ?_
 rintro e w2 ⟨rfl, hb2⟩
 have hp2 : Px b w1 w2 := Px.below hb2 (Nat.le_refl _)
 obtain ⟨ck0, ck1⟩ := Cl0.px HNE.out w1 w2 _ HR1.out hp2 HK1.out
 have HR2 := hid (HR1.out.below hb2 HR1.out.lt (Nat.le_refl _))
 have HX2 := hid (HX1.out.trans hp2)
 clear hb2 hp2
 go_wp2_with fail
 go_at_call 118
 refine (HLF.out _ _ _ _ _ _ _ _ _ (HSC.out _ HX2.out) HR2.out (by omega) (by omega)).mono ?_
 rintro e w3 ⟨s3, rfl, hs3, hr3, hp3⟩
 have HR3 := hid hr3
 have HX3 := hid (HX2.out.trans hp3)
 clear hr3 hp3
 go_wp2_with fail
 go_ret
 exact ⟨_, rfl, hs3, HR3.out, HPX.out _ HX3.out⟩
theorem mleaf_ret {b S : Nat} {want : ByteArray} {x : Ty} (hread : readTy want = some (.ret x)) (hL : Lea b want S) (hS2 : want.size + 200 ≤ S) : Ter 83 b 0 want S := by
 intro r w p q n c e ns ts j hsc hr hq hn hj
 have HLF := hid hL
 have hwz : want.size ≤ 400000000 := by omega
 have HKD := hid (fun W => (spc want hwz W).mono fun e w' h => lwk h)
 rw [hread] at HKD
 have HKD2 := hid (fun W => (show Calls Tryz.prog 117 #[.string want] W (KdPost [x] 1 true W) from HKD.out W))
 have HHD := hid (fun W => (show Calls Tryz.prog 103 #[.string want] W fun e w' => e = .returned (.string ({ data := #[102] } : ByteArray)) ∧ Below W.heap.size W w' from by have h1 := spe want hwz W; rw [hread] at h1; exact h1))
 obtain ⟨wB, hwB⟩ : ∃ W, (w.alloc (.cells #[.slice p n c, .slice q n e] 114)) = W := ⟨_, rfl⟩
 have HWB := hid hwB
 have HPX := hid (fun (W : World) (hx : Px b wB W) => (show Px b w W from (show Px b w wB from by rw [← hwB]; exact (Px.refl b w).alloc _).trans hx))
 have HSC := hid (fun (W : World) (hx : Px b wB W) => hsc.px hr (HPX.out W hx))
 have HR0 := hid (show Rd wB b r from by rw [← hwB]; exact hr.alloc _)
 have HX0 := hid (Px.refl b wB)
 have HNE := hid (show w.heap.size ≠ b from by have := hr.lt; omega)
 have HK0 := hid (show Cl0 w.heap.size p q n c e wB from by rw [← hwB]; have h := cel (hea w (.cells #[.slice p n c, .slice q n e] 114) _ rfl); exact ⟨h.1, h.2.1⟩)
 subst hj
 have hd3 : decide ((0 : Int) ≤ 0) = true := by decide
 clear hread hL hsc hr HKD hwB
 go_enter Tryz.func83, Tryz.ntmps83
 go_wp2_with fail
 rw [HWB.out]
 go_at_call 117
 refine (HKD2.out _).mono ?_
 rintro e w1 ⟨q1, d1, rfl, hv1, hu1, hb1⟩
 have HR1 := hid (HR0.out.below hb1 HR0.out.lt (Nat.le_refl _))
 have hp1 : Px b wB w1 := Px.below hb1 (Nat.le_refl _)
 have HX1 := hid hp1
 have HK1 := hid (Cl0.px HNE.out wB w1 _ HR0.out hp1 HK0.out)
 clear hv1 hu1 hb1 hp1
 go_wp2_with fail
 go_at_call 103
 refine (HHD.out _).mono ?_
 rintro e w2 ⟨rfl, hb2⟩
 have hp2 : Px b w1 w2 := Px.below hb2 (Nat.le_refl _)
 obtain ⟨ck0, ck1⟩ := Cl0.px HNE.out w1 w2 _ HR1.out hp2 HK1.out
 have HR2 := hid (HR1.out.below hb2 HR1.out.lt (Nat.le_refl _))
 have HX2 := hid (HX1.out.trans hp2)
 clear hb2 hp2
 go_wp2_with fail
 go_at_call 118
 refine (HLF.out _ _ _ _ _ _ _ _ _ (HSC.out _ HX2.out) HR2.out (by omega) (by omega)).mono ?_
 rintro e w3 ⟨s3, rfl, hs3, hr3, hp3⟩
 have HR3 := hid hr3
 have HX3 := hid (HX2.out.trans hp3)
 clear hr3 hp3
 go_wp2_with fail
 go_ret
 exact ⟨_, rfl, hs3, HR3.out, HPX.out _ HX3.out⟩
theorem mleaf_fn {b S : Nat} {want : ByteArray} {x y : Ty} (hread : readTy want = some (.fn x y)) (hL : Lea b want S) (hS2 : want.size + 200 ≤ S) : Ter 83 b 0 want S := by
 intro r w p q n c e ns ts j hsc hr hq hn hj
 have HLF := hid hL
 have hwz : want.size ≤ 400000000 := by omega
 have HKD := hid (fun W => (spc want hwz W).mono fun e w' h => lwk h)
 rw [hread] at HKD
 have HKD2 := hid (fun W => (show Calls Tryz.prog 117 #[.string want] W (KdPost [x, y] 2 true W) from HKD.out W))
 have HHD := hid (fun W => (show Calls Tryz.prog 103 #[.string want] W fun e w' => e = .returned (.string ({ data := #[62] } : ByteArray)) ∧ Below W.heap.size W w' from by have h1 := spe want hwz W; rw [hread] at h1; exact h1))
 obtain ⟨wB, hwB⟩ : ∃ W, (w.alloc (.cells #[.slice p n c, .slice q n e] 114)) = W := ⟨_, rfl⟩
 have HWB := hid hwB
 have HPX := hid (fun (W : World) (hx : Px b wB W) => (show Px b w W from (show Px b w wB from by rw [← hwB]; exact (Px.refl b w).alloc _).trans hx))
 have HSC := hid (fun (W : World) (hx : Px b wB W) => hsc.px hr (HPX.out W hx))
 have HR0 := hid (show Rd wB b r from by rw [← hwB]; exact hr.alloc _)
 have HX0 := hid (Px.refl b wB)
 have HNE := hid (show w.heap.size ≠ b from by have := hr.lt; omega)
 have HK0 := hid (show Cl0 w.heap.size p q n c e wB from by rw [← hwB]; have h := cel (hea w (.cells #[.slice p n c, .slice q n e] 114) _ rfl); exact ⟨h.1, h.2.1⟩)
 subst hj
 have hd3 : decide ((0 : Int) ≤ 0) = true := by decide
 clear hread hL hsc hr HKD hwB
 go_enter Tryz.func83, Tryz.ntmps83
 go_wp2_with fail
 rw [HWB.out]
 go_at_call 117
 refine (HKD2.out _).mono ?_
 rintro e w1 ⟨q1, d1, rfl, hv1, hu1, hb1⟩
 have HR1 := hid (HR0.out.below hb1 HR0.out.lt (Nat.le_refl _))
 have hp1 : Px b wB w1 := Px.below hb1 (Nat.le_refl _)
 have HX1 := hid hp1
 have HK1 := hid (Cl0.px HNE.out wB w1 _ HR0.out hp1 HK0.out)
 clear hv1 hu1 hb1 hp1
 go_wp2_with fail
 go_at_call 103
 refine (HHD.out _).mono ?_
 rintro e w2 ⟨rfl, hb2⟩
 have hp2 : Px b w1 w2 := Px.below hb2 (Nat.le_refl _)
 obtain ⟨ck0, ck1⟩ := Cl0.px HNE.out w1 w2 _ HR1.out hp2 HK1.out
 have HR2 := hid (HR1.out.below hb2 HR1.out.lt (Nat.le_refl _))
 have HX2 := hid (HX1.out.trans hp2)
 clear hb2 hp2
 go_wp2_with fail
 go_at_call 118
 refine (HLF.out _ _ _ _ _ _ _ _ _ (HSC.out _ HX2.out) HR2.out (by omega) (by omega)).mono ?_
 rintro e w3 ⟨s3, rfl, hs3, hr3, hp3⟩
 have HR3 := hid hr3
 have HX3 := hid (HX2.out.trans hp3)
 clear hr3 hp3
 go_wp2_with fail
 go_ret
 exact ⟨_, rfl, hs3, HR3.out, HPX.out _ HX3.out⟩
theorem mleaf_choice {b S : Nat} {want : ByteArray} {x y : Ty} (hread : readTy want = some (.choice x y)) (hL : Lea b want S) (hS2 : want.size + 200 ≤ S) : Ter 83 b 0 want S := by
 intro r w p q n c e ns ts j hsc hr hq hn hj
 have HLF := hid hL
 have hwz : want.size ≤ 400000000 := by omega
 have HKD := hid (fun W => (spc want hwz W).mono fun e w' h => lwk h)
 rw [hread] at HKD
 have HKD2 := hid (fun W => (show Calls Tryz.prog 117 #[.string want] W (KdPost [x, y] 2 true W) from HKD.out W))
 have HHD := hid (fun W => (show Calls Tryz.prog 103 #[.string want] W fun e w' => e = .returned (.string ({ data := #[38] } : ByteArray)) ∧ Below W.heap.size W w' from by have h1 := spe want hwz W; rw [hread] at h1; exact h1))
 obtain ⟨wB, hwB⟩ : ∃ W, (w.alloc (.cells #[.slice p n c, .slice q n e] 114)) = W := ⟨_, rfl⟩
 have HWB := hid hwB
 have HPX := hid (fun (W : World) (hx : Px b wB W) => (show Px b w W from (show Px b w wB from by rw [← hwB]; exact (Px.refl b w).alloc _).trans hx))
 have HSC := hid (fun (W : World) (hx : Px b wB W) => hsc.px hr (HPX.out W hx))
 have HR0 := hid (show Rd wB b r from by rw [← hwB]; exact hr.alloc _)
 have HX0 := hid (Px.refl b wB)
 have HNE := hid (show w.heap.size ≠ b from by have := hr.lt; omega)
 have HK0 := hid (show Cl0 w.heap.size p q n c e wB from by rw [← hwB]; have h := cel (hea w (.cells #[.slice p n c, .slice q n e] 114) _ rfl); exact ⟨h.1, h.2.1⟩)
 subst hj
 have hd3 : decide ((0 : Int) ≤ 0) = true := by decide
 clear hread hL hsc hr HKD hwB
 go_enter Tryz.func83, Tryz.ntmps83
 go_wp2_with fail
 rw [HWB.out]
 go_at_call 117
 refine (HKD2.out _).mono ?_
 rintro e w1 ⟨q1, d1, rfl, hv1, hu1, hb1⟩
 have HR1 := hid (HR0.out.below hb1 HR0.out.lt (Nat.le_refl _))
 have hp1 : Px b wB w1 := Px.below hb1 (Nat.le_refl _)
 have HX1 := hid hp1
 have HK1 := hid (Cl0.px HNE.out wB w1 _ HR0.out hp1 HK0.out)
 clear hv1 hu1 hb1 hp1
 go_wp2_with fail
 go_at_call 103
 refine (HHD.out _).mono ?_
 rintro e w2 ⟨rfl, hb2⟩
 have hp2 : Px b w1 w2 := Px.below hb2 (Nat.le_refl _)
 obtain ⟨ck0, ck1⟩ := Cl0.px HNE.out w1 w2 _ HR1.out hp2 HK1.out
 have HR2 := hid (HR1.out.below hb2 HR1.out.lt (Nat.le_refl _))
 have HX2 := hid (HX1.out.trans hp2)
 clear hb2 hp2
 go_wp2_with fail
 go_at_call 118
 refine (HLF.out _ _ _ _ _ _ _ _ _ (HSC.out _ HX2.out) HR2.out (by omega) (by omega)).mono ?_
 rintro e w3 ⟨s3, rfl, hs3, hr3, hp3⟩
 have HR3 := hid hr3
 have HX3 := hid (HX2.out.trans hp3)
 clear hr3 hp3
 go_wp2_with fail
 go_ret
 exact ⟨_, rfl, hs3, HR3.out, HPX.out _ HX3.out⟩
def f0 (n : Nat) : Nat := 1000 * n + 500
def g0 (n : Nat) : Nat := 1000 * n + 1000
theorem zero_all (b : Nat) (k : Nat) : ∀ want : ByteArray, want.size = k → k ≤ 399990 →
    Ter 114 b 0 want (g0 want.size) ∧ (WantC want → Ter 83 b 0 want (f0 want.size)) := by
 induction k using Nat.strongRecOn with
 | ind k ih =>
  intro want hk hb
  have hf : f0 want.size = 1000 * want.size + 500 := rfl
  have hg : g0 want.size = 1000 * want.size + 1000 := rfl
  have hgx : ∀ n, g0 n = 1000 * n + 1000 := fun n => rfl
  have hfx : ∀ n, f0 n = 1000 * n + 500 := fun n => rfl
  constructor
  ·refine l91V_gen (f := f0) (g := g0) (fun n => by rw [hgx]; omega) (fun x y n h => by rw [hgx, hgx, hgx]; omega) (fun x n h => by rw [hgx, hfx]; omega) (by omega) ?_ ?_
   ·intro c hc
    have hz : want.size = c.text.size + 4 := by rw [lwt hc]; exact tx_thunk c
    exact (ih c.text.size (by omega) c.text rfl (by omega)).2 (wantC_kid hc (i := 0) rfl (wf_thunk hc))
   ·intro x y hc
    have hz : want.size = x.text.size + y.text.size + 5 := by rw [lwt hc]; exact tx_pair x y
    exact ⟨(ih x.text.size (by omega) x.text rfl (by omega)).1, (ih y.text.size (by omega) y.text rfl (by omega)).1⟩
  ·intro hw
   cases h : readTy want with
   | none => exact mleaf_none0 h (leaf_none h (by omega)) (by omega)
   | some ty =>
    cases ty with
    | bit => have := hw _ h; cases this
    | pair x y => have := hw _ h; cases this
    | thunk c => have := hw _ h; cases this
    | ret x =>
     have hz : want.size = x.text.size + 4 := by rw [lwt h]; exact tx_ret x
     have hx := (ih x.text.size (by omega) x.text rfl (by omega)).1
     have hgz := hgx x.text.size
     exact mleaf_ret h (leaf_ret h hx (by omega) (by omega) (by omega)) (by omega)
    | fn x y => exact mleaf_fn h (leaf_fn h (by omega)) (by omega)
    | choice x y => exact mleaf_choice h (leaf_choice h (by omega)) (by omega)
theorem draws_all (b : Nat) : ∀ d, d ≤ 8 → DrawsV b d ∧ DrawsM b d := by
 intro d
 induction d with
 | zero =>
  intro _
  constructor
  ·intro want hS
   rw [mV_eq, show mA 0 = 1000 from rfl] at hS
   refine ((zero_all b _ want rfl (by omega)).1).le ?_
   rw [mV_eq, show mA 0 = 1000 from rfl, g0]; omega
  ·intro want hw hS
   rw [mC_eq, show mA 0 = 1000 from rfl] at hS
   refine ((zero_all b _ want rfl (by omega)).2 hw).le ?_
   rw [mC_eq, show mA 0 = 1000 from rfl, f0]; omega
 | succ d ih =>
  intro hd
  obtain ⟨hV, hM⟩ := ih (by omega)
  have hM' : DrawsM b (d + 1) := by
   intro want hw hS
   have hS2 := hS
   rw [mC_succ] at hS2
   have hge : want.size + 200 ≤ mC (d + 1) want.size := by rw [mC_succ]; omega
   cases h : readTy want with
   | none => exact mleaf_none h (leaf_none h hge) hge
   | some ty =>
    cases ty with
    | bit => have := hw _ h; cases this
    | pair x y => have := hw _ h; cases this
    | thunk c => have := hw _ h; cases this
    | ret x => exact l91M_ret h hM hV hS (by omega)
    | fn x y => exact l91M_fn h hM hV hS (by omega)
    | choice x y => exact l91M_choice h hM hV hS (by omega)
  refine ⟨?_, hM'⟩
  have key : ∀ k, ∀ want : ByteArray, want.size = k → mV (d + 1) want.size ≤ 400000000 → Ter 114 b (d + 1) want (mV (d + 1) want.size) := by
   intro k
   induction k using Nat.strongRecOn with
   | ind k ih =>
    intro want hk hS
    refine l91V_any hS ?_ ?_
    ·intro c hc
     have hz : want.size = c.text.size + 4 := by rw [lwt hc]; exact tx_thunk c
     have h1 := mV_thunk (d + 1) c.text.size want.size (by omega)
     exact hM' c.text (wantC_kid hc (i := 0) rfl (wf_thunk hc)) (by omega)
    ·intro x y hc
     have hz : want.size = x.text.size + y.text.size + 5 := by rw [lwt hc]; exact tx_pair x y
     have h1 := mV_pair (d + 1) x.text.size y.text.size want.size (by omega)
     exact ⟨ih x.text.size (by omega) x.text rfl (by omega), ih y.text.size (by omega) y.text rfl (by omega)⟩
  exact fun want hS => key _ want rfl hS
theorem scp_none {w : World} {p q : Option Addr} {n c e : Nat} (hn : n = 0) (h1 : c = 0) (h2 : e = 0) : Scp w p q n c e [] [] := by
 subst hn
 exact ⟨⟨rfl, fun _ => ⟨rfl, h1⟩, fun i s h => by simp at h⟩, ⟨rfl, fun _ => ⟨rfl, h2⟩, fun i s h => by simp at h⟩, by omega, fun s h => by cases h⟩
theorem pickN_any {w : World} {b q : Nat} (hr : Rd w b q) (hq : q ≤ 1099511627776) (n : Nat) (h1 : 1 ≤ n) (h2 : n ≤ 1000) (m : Int) (hm : m = (n : Int)) :
    Calls Tryz.prog 41 #[.pointer (some ⟨b, 0, none⟩), .int .i64 m] w fun e w' => ∃ k : Nat, e = .returned (.int .i64 (k : Int)) ∧ k < n ∧ Rd w' b (q + 1) ∧ Px b w w' := by
 subst hm
 refine (pic hr hq (n : Int) (by omega)).mono ?_
 rintro e w' ⟨x, rfl, h0, hx, _, hr', hp'⟩
 have hxn := hx (by omega)
 obtain ⟨k, rfl⟩ := Int.eq_ofNat_of_zero_le h0
 exact ⟨k, rfl, by omega, hr', hp'⟩
theorem wantC_fb : WantC ⟨#[40, 102, 32, 98, 41]⟩ := wantC_of (r := [32, 98, 41]) (c := 102) (by rw [Go.ByteArray.toList_eq]) (by decide) (by decide)
def DrawnW (b q S : Nat) (w : World) (e : Ending) (w' : World) : Prop := ∃ s : ByteArray, e = .returned (.string s) ∧ s.size ≤ S ∧ WantC s ∧ Rd w' b q ∧ Px b w w'
theorem rof_mem {w : World} {b q : Nat} (hr : Rd w b q) (hq : q ≤ 1099511627776) (g n c : Nat) (l : List ByteArray) (hl : SV w (some ⟨g, 0, none⟩) n c l) (hn : 1 ≤ n) (hn2 : n ≤ 1000) (hg : g ≠ b) :
    Calls Tryz.prog 40 #[.pointer (some ⟨b, 0, none⟩), .slice (some ⟨g, 0, none⟩) n c] w fun e w' => ∃ s ∈ l, e = .returned (.string s) ∧ Rd w' b (q + 1) ∧ Px b w w' := by
 have HP := hid (pic hr hq (n : Int) (by omega))
 have HL := hid hl
 clear hr hl
 go_enter Tryz.func40, Tryz.ntmps40
 go_wp2_with fail
 go_at_call 41
 refine HP.out.mono ?_
 rintro e w1 ⟨x, rfl, hx0, hx1, _, hr1, hp1⟩
 obtain ⟨k, rfl⟩ := Int.eq_ofNat_of_zero_le hx0
 have hk : k < n := by have := hx1 (by omega); omega
 obtain ⟨s, hs⟩ : ∃ s, l[k]? = some s := ⟨_, List.getElem?_eq_getElem (by rw [HL.out.1]; exact hk)⟩
 obtain ⟨g2, hg2, hcell⟩ := HL.out.2.2 k s hs
 obtain rfl : g = g2 := by simpa using hg2
 have hc1 := hp1.cell (a := ⟨g, k, none⟩) hg hcell
 have HS := hid (List.mem_of_getElem? hs)
 have HR := hid hr1
 have HX := hid hp1
 clear hr1 hp1 hcell hg2 hs hx0 hx1
 go_wp2_with fail
 go_ret
 exact ⟨s, HS.out, rfl, HR.out, HX.out⟩
theorem compW_succ {b d : Nat} (hd : d ≤ 20) (hv : ∀ q w, Rd w b q → q + costT d ≤ 1099511627776 → Calls Tryz.prog 115 #[.pointer (some ⟨b, 0, none⟩), .int .i64 (d : Int)] w (Drawn b (q + costT d) (sizeT d) w))
    (hc : ∀ q w, Rd w b q → q + costT d ≤ 1099511627776 → Calls Tryz.prog 113 #[.pointer (some ⟨b, 0, none⟩), .int .i64 (d : Int)] w (Drawn b (q + costT d) (sizeT d) w))
    (q : Nat) (w : World) (hr : Rd w b q) (hq : q + costT (d + 1) ≤ 1099511627776) : Calls Tryz.prog 113 #[.pointer (some ⟨b, 0, none⟩), .int .i64 ((d : Int) + 1)] w (DrawnW b (q + costT (d + 1)) (sizeT (d + 1)) w) := by
 have HC1 := hid (show costT (d + 1) = 2 * costT d + 3 from rfl)
 have HC2 := hid (show sizeT (d + 1) = 2 * sizeT d + 5 from rfl)
 have HSZ := hid (sizeT_le d hd)
 rw [HC1.out] at hq
 have hne : (((d : Int) + 1) == 0) = false := beq_eq_false_iff_ne.2 (by omega)
 have HP := hid (pic hr (by omega) 2 (by omega))
 have HV := hid hv
 have HCC := hid hc
 have HVI := hid (fun (i : Int) (hi : i = (d : Int)) q w (h1 : Rd w b q) (h2 : q + costT d ≤ 1099511627776) => (show Calls Tryz.prog 115 #[.pointer (some ⟨b, 0, none⟩), .int .i64 i] w (Drawn b (q + costT d) (sizeT d) w) from by rw [hi]; exact hv q w h1 h2))
 have hmx : max 0 (d : Int) = (d : Int) := by omega
 clear hr hv hc
 go_enter Tryz.func113, Tryz.ntmps113
 go_wp2_with fail
 go_at_call 41
 refine (HP.out).mono ?_
 rintro e w1 ⟨x1, rfl, hx1a, hx1b, _, hr1, hp1⟩
 have hx1c : x1 < 2 := hx1b (by decide)
 have HR1 := hid hr1
 have HX1 := hid hp1
 clear hr1 hp1 hx1b
 rcases two_cases hx1a hx1c with rfl | rfl
 ·go_wp2_with fail
  all_goals
   go_at_call 115
   refine (HVI.out _ (by omega) _ _ HR1.out (by omega)).mono ?_
   rintro e w3 ⟨s3, rfl, hs3, hr3, hp3⟩
   have hz3 : s3.size ≤ 100000000 := Nat.le_trans hs3 HSZ.out
   have HR3 := hid hr3
   have HX3 := hid (HX1.out.trans hp3)
   have HS3 := hid hs3
   clear hr3 hp3 hs3
   go_wp2_with fail
   go_ret
   refine ⟨_, rfl, ?_, (by simp only [ByteArray.append_assoc]; exact wantC_app 102 [32] _ (by decide) (by decide) rfl), HR3.out.le (by rw [HC1.out]; omega), HX3.out⟩
   have := HS3.out
   rw [HC2.out]; simp [ByteArray.size_append, bsz]; omega
 ·go_wp2_with fail
  have HP2 := hid (pic HR1.out (by omega) 3 (by omega))
  go_at_call 41
  refine (HP2.out).mono ?_
  rintro e w2 ⟨x2, rfl, hx2a, hx2b, _, hr2, hp2⟩
  have hx2c : x2 < 3 := hx2b (by decide)
  have HR2 := hid hr2
  have HX2 := hid (HX1.out.trans hp2)
  clear hr2 hp2 hx2b
  by_cases hz : x2 = 0
  ·subst hz
   go_wp2_with fail
   go_at_call 113
   refine (HCC.out _ _ HR2.out (by omega)).mono ?_
   rintro e w3 ⟨s3, rfl, hs3, hr3, hp3⟩
   have hz3 : s3.size ≤ 100000000 := Nat.le_trans hs3 HSZ.out
   have HR3 := hid hr3
   have HX3 := hid (HX2.out.trans hp3)
   have HS3 := hid hs3
   clear hr3 hp3 hs3
   go_wp2_with fail
   go_at_call 113
   refine (HCC.out _ _ HR3.out (by omega)).mono ?_
   rintro e w4 ⟨s4, rfl, hs4, hr4, hp4⟩
   have hz4 : s4.size ≤ 100000000 := Nat.le_trans hs4 HSZ.out
   have HR4 := hid hr4
   have HX4 := hid (HX3.out.trans hp4)
   have HS4 := hid hs4
   clear hr4 hp4 hs4
   go_wp2_with fail
   go_ret
   refine ⟨_, rfl, ?_, (by simp only [ByteArray.append_assoc]; exact wantC_app 38 [32] _ (by decide) (by decide) rfl), HR4.out.le (by rw [HC1.out]; omega), HX4.out⟩
   have := HS3.out
   have := HS4.out
   rw [HC2.out]; simp [ByteArray.size_append, bsz]; omega
  ·have hzf : (x2 == 0) = false := beq_eq_false_iff_ne.2 hz
   clear hz
   go_wp2_with fail
   go_at_call 115
   refine (HV.out _ _ HR2.out (by omega)).mono ?_
   rintro e w3 ⟨s3, rfl, hs3, hr3, hp3⟩
   have hz3 : s3.size ≤ 100000000 := Nat.le_trans hs3 HSZ.out
   have HR3 := hid hr3
   have HX3 := hid (HX2.out.trans hp3)
   have HS3 := hid hs3
   clear hr3 hp3 hs3
   go_wp2_with fail
   go_at_call 113
   refine (HCC.out _ _ HR3.out (by omega)).mono ?_
   rintro e w4 ⟨s4, rfl, hs4, hr4, hp4⟩
   have hz4 : s4.size ≤ 100000000 := Nat.le_trans hs4 HSZ.out
   have HR4 := hid hr4
   have HX4 := hid (HX3.out.trans hp4)
   have HS4 := hid hs4
   clear hr4 hp4 hs4
   go_wp2_with fail
   go_ret
   refine ⟨_, rfl, ?_, (by simp only [ByteArray.append_assoc]; exact wantC_app 62 [32] _ (by decide) (by decide) rfl), HR4.out.le (by rw [HC1.out]; omega), HX4.out⟩
   have := HS3.out
   have := HS4.out
   rw [HC2.out]; simp [ByteArray.size_append, bsz]; omega
theorem comp2_any {w : World} {b q : Nat} (hr : Rd w b q) (hq : q + 9 ≤ 1099511627776) : Calls Tryz.prog 113 #[.pointer (some ⟨b, 0, none⟩), .int .i64 2] w (DrawnW b (q + 9) 51 w) :=
 compW_succ (d := 1) (by decide) (types_any b 1 (by decide)).1 (types_any b 1 (by decide)).2 q w hr hq
theorem value2_any {w : World} {b q : Nat} (hr : Rd w b q) (hq : q + 9 ≤ 1099511627776) : Calls Tryz.prog 115 #[.pointer (some ⟨b, 0, none⟩), .int .i64 2] w (Drawn b (q + 9) 51 w) :=
 (types_any b 2 (by decide)).1 q w hr hq
theorem l91None_any (w : World) : Calls Tryz.prog 112 #[] w fun e w' => ∃ p q, e = .returned (.agg #[.slice p 0 0, .slice q 0 0]) ∧ Below w.heap.size w w' := by
 go_enter Tryz.func112, Tryz.ntmps112
 go_wp2_with fail
 refine bodyPost_ret (v := .agg #[.slice (some ⟨w.heap.size + 1, 0, none⟩) 0 0, .slice (some ⟨w.heap.size + 1 + 1, 0, none⟩) 0 0]) (by simp [results, Tryz.results112, go_sem]) rfl ?_
 exact ⟨_, _, rfl, by first | exact ((Below.refl _ _).alloc (Nat.le_refl _) _).alloc (by simp) _ | exact (((Below.refl _ _).alloc (Nat.le_refl _) _).alloc (by simp) _).alloc (by simp; omega) _⟩
theorem good_M {S : Nat} (hS : S = 60000000) (b k : Nat) (hk : k < 3) (want : ByteArray) (hw : WantC want) (hz : want.size ≤ 51) : Ter 83 b (1 + k) want S := by
 have h := (draws_all b (1 + k) (by omega)).2 want hw
 have h1 : mC (1 + k) want.size ≤ mC (1 + k) 51 := by rw [mC_eq, mC_eq]; have := Nat.mul_le_mul_left (mA (1 + k)) hz; omega
 have hle : mC (1 + k) 51 ≤ 60000000 := by
  have : k = 0 ∨ k = 1 ∨ k = 2 := by omega
  rcases this with rfl | rfl | rfl <;> decide
 exact (h (by omega)).le (by omega)
theorem good_V {S : Nat} (hS : S = 60000000) (b k : Nat) (hk : k < 2) (want : ByteArray) (hz : want.size ≤ 51) : Ter 114 b (1 + k) want S := by
 have h := (draws_all b (1 + k) (by omega)).1 want
 have h1 : mV (1 + k) want.size ≤ mV (1 + k) 51 := by rw [mV_eq, mV_eq]; have := Nat.mul_le_mul_left (mA (1 + k)) hz; omega
 have hle : mV (1 + k) 51 ≤ 60000000 := by
  have : k = 0 ∨ k = 1 := by omega
  rcases this with rfl | rfl <;> decide
 exact (h (by omega)).le (by omega)
def btL : List ByteArray := [⟨#[40, 102, 32, 98, 41]⟩, ⟨#[40, 102, 32, 98, 41]⟩, ⟨#[40, 102, 32, 40, 42, 32, 98, 32, 98, 41, 41]⟩]
theorem btL_ok : ∀ s ∈ btL, s.size ≤ 11 ∧ WantC s := by
 intro s hs
 simp only [btL, List.mem_cons, List.mem_nil_iff, or_false] at hs
 rcases hs with rfl | rfl | rfl
 ·exact ⟨by decide, wantC_fb⟩
 ·exact ⟨by decide, wantC_fb⟩
 ·exact ⟨by decide, wantC_of (r := [32, 40, 42, 32, 98, 32, 98, 41, 41]) (c := 102) (by rw [Go.ByteArray.toList_eq]) (by decide) (by decide)⟩
theorem btL_lit {w : World} {g : Nat} (h : w.heap.size = g) : SV (w.alloc (.cells #[.string ⟨#[40, 102, 32, 98, 41]⟩, .string ⟨#[40, 102, 32, 98, 41]⟩, .string ⟨#[40, 102, 32, 40, 42, 32, 98, 32, 98, 41, 41]⟩] 9)) (some ⟨g, 0, none⟩) 3 3 btL := by subst h; exact sv_lit w btL 3 3 9 rfl
theorem bits_M {S : Nat} (hS : S = 60000000) (b k : Nat) (hk : k < 3) (want : ByteArray) (hw : want ∈ btL) : Ter 83 b (2 + k) want S := by
 obtain ⟨hz, hwc⟩ := btL_ok want hw
 have h := (draws_all b (2 + k) (by omega)).2 want hwc
 have h1 : mC (2 + k) want.size ≤ mC (2 + k) 11 := by rw [mC_eq, mC_eq]; have := Nat.mul_le_mul_left (mA (2 + k)) hz; omega
 have hle : mC (2 + k) 11 ≤ 60000000 := by
  have : k = 0 ∨ k = 1 ∨ k = 2 := by omega
  rcases this with rfl | rfl | rfl <;> decide
 exact (h (by omega)).le (by omega)
theorem l91Bits_any {S : Nat} (hS : S = 60000000) {w : World} {b q : Nat} (hr : Rd w b q) (hq : q + S + 20 ≤ 400000000) : Calls Tryz.prog 116 #[.pointer (some ⟨b, 0, none⟩)] w (Drawn b (q + S + 20) S w) := by
 have HR0 := hid hr
 have HX0 := hid (Px.refl b w)
 clear hr
 go_enter Tryz.func116, Tryz.ntmps116
 go_wp2_with fail
 go_at_call 112
 refine (l91None_any _).mono ?_
 rintro e w1 ⟨p1, q1, rfl, hb1⟩
 have HR1 := hid (HR0.out.below hb1 HR0.out.lt (Nat.le_refl _))
 have HX1 := hid (show Px b w w1 from Px.below hb1 (Nat.le_refl _))
 clear hb1
 go_wp2_with fail
 go_at_call 40
 refine (rof_mem (HR1.out.alloc _) (by omega) w1.heap.size 3 3 btL (btL_lit rfl) (by omega) (by omega) (by have := HR1.out.lt; omega)).mono ?_
 rintro e w2 ⟨s2, hs2, rfl, hr2, hp2⟩
 have HR2 := hid hr2
 have HX2 := hid ((HX1.out.alloc _).trans hp2)
 have HS2 := hid hs2
 clear hr2 hp2 hs2
 go_wp2_with fail
 go_at_call 41
 refine (pickN_any HR2.out (by omega) 3 (by decide) (by decide) _ rfl).mono ?_
 rintro e w3 ⟨k, rfl, hk, hr3, hp3⟩
 have HR3 := hid hr3
 have HX3 := hid (HX2.out.trans hp3)
 clear hr3 hp3
 go_wp2_with fail
 go_at_call 83
 refine (bits_M hS b k hk s2 HS2.out _ _ _ _ _ _ _ _ _ _ (scp_none rfl rfl rfl) HR3.out (by omega) (by omega) (by omega)).mono ?_
 rintro e w4 ⟨s4, rfl, hs4, hr4, hp4⟩
 have HR4 := hid hr4
 have HX4 := hid (HX3.out.trans hp4)
 have HS4 := hid hs4
 clear hr4 hp4 hs4
 go_wp2_with fail
 go_ret
 exact ⟨_, rfl, HS4.out, HR4.out.le (by omega), HX4.out⟩
theorem l91Good_any {S : Nat} (hS : S = 60000000) {w : World} {b q : Nat} (hr : Rd w b q) (hq : q + S + 40 ≤ 400000000) : Calls Tryz.prog 75 #[.pointer (some ⟨b, 0, none⟩)] w (Drawn b (q + S + 40) S w) := by
 have HR0 := hid hr
 have HX0 := hid (Px.refl b w)
 clear hr
 go_enter Tryz.func75, Tryz.ntmps75
 go_wp2_with fail
 go_at_call 41
 refine (pickN_any HR0.out (by omega) 4 (by decide) (by decide) _ rfl).mono ?_
 rintro e w1 ⟨x, rfl, hx, hr1, hp1⟩
 have HR1 := hid hr1
 have HX1 := hid hp1
 clear hr1 hp1
 have hcs : x = 0 ∨ x = 1 ∨ x = 2 ∨ x = 3 := by omega
 clear hx
 rcases hcs with rfl | rfl | rfl | rfl
 ·go_wp2_with fail
  go_at_call 112
  refine (l91None_any _).mono ?_
  rintro e w2 ⟨p2, q2, rfl, hb2⟩
  have HR2 := hid (HR1.out.below hb2 HR1.out.lt (Nat.le_refl _))
  have HX2 := hid (HX1.out.trans (Px.below hb2 (Nat.le_refl _)))
  clear hb2
  go_wp2_with fail
  go_at_call 113
  refine (comp2_any HR2.out (by omega)).mono ?_
  rintro e w3 ⟨s3, rfl, hs3, hw3, hr3, hp3⟩
  have HR3 := hid hr3
  have HX3 := hid (HX2.out.trans hp3)
  have HS3 := hid hs3
  have HW3 := hid hw3
  clear hr3 hp3 hs3 hw3
  go_wp2_with fail
  go_at_call 41
  refine (pickN_any HR3.out (by omega) 3 (by decide) (by decide) _ rfl).mono ?_
  rintro e w4 ⟨k, rfl, hk, hr4, hp4⟩
  have HR4 := hid hr4
  have HX4 := hid (HX3.out.trans hp4)
  clear hr4 hp4
  go_wp2_with fail
  go_at_call 83
  refine (good_M hS b k hk s3 HW3.out HS3.out _ _ _ _ _ _ _ _ _ _ (scp_none rfl rfl rfl) HR4.out (by omega) (by omega) (by omega)).mono ?_
  rintro e w5 ⟨s5, rfl, hs5, hr5, hp5⟩
  have HR5 := hid hr5
  have HX5 := hid (HX4.out.trans hp5)
  have HS5 := hid hs5
  clear hr5 hp5 hs5
  go_wp2_with fail
  go_ret
  exact ⟨_, rfl, HS5.out, HR5.out.le (by omega), HX5.out⟩
 ·go_wp2_with fail
  go_at_call 112
  refine (l91None_any _).mono ?_
  rintro e w2 ⟨p2, q2, rfl, hb2⟩
  have HR2 := hid (HR1.out.below hb2 HR1.out.lt (Nat.le_refl _))
  have HX2 := hid (HX1.out.trans (Px.below hb2 (Nat.le_refl _)))
  clear hb2
  go_wp2_with fail
  go_at_call 115
  refine (value2_any HR2.out (by omega)).mono ?_
  rintro e w3 ⟨s3, rfl, hs3, hr3, hp3⟩
  have HR3 := hid hr3
  have HX3 := hid (HX2.out.trans hp3)
  have HS3 := hid hs3
  skip
  clear hr3 hp3 hs3
  go_wp2_with fail
  go_at_call 41
  refine (pickN_any HR3.out (by omega) 2 (by decide) (by decide) _ rfl).mono ?_
  rintro e w4 ⟨k, rfl, hk, hr4, hp4⟩
  have HR4 := hid hr4
  have HX4 := hid (HX3.out.trans hp4)
  clear hr4 hp4
  go_wp2_with fail
  go_at_call 114
  refine (good_V hS b k hk s3 HS3.out _ _ _ _ _ _ _ _ _ _ (scp_none rfl rfl rfl) HR4.out (by omega) (by omega) (by omega)).mono ?_
  rintro e w5 ⟨s5, rfl, hs5, hr5, hp5⟩
  have HR5 := hid hr5
  have HX5 := hid (HX4.out.trans hp5)
  have HS5 := hid hs5
  clear hr5 hp5 hs5
  go_wp2_with fail
  go_ret
  exact ⟨_, rfl, HS5.out, HR5.out.le (by omega), HX5.out⟩
 ·go_wp2_with fail
  go_at_call 116
  refine (l91Bits_any hS HR1.out (by omega)).mono ?_
  rintro e w2 ⟨s2, rfl, hs2, hr2, hp2⟩
  have HR2 := hid hr2
  have HX2 := hid (HX1.out.trans hp2)
  have HS2 := hid hs2
  clear hr2 hp2 hs2
  go_wp2_with fail
  go_ret
  exact ⟨_, rfl, HS2.out, HR2.out.le (by omega), HX2.out⟩
 ·go_wp2_with fail
  go_at_call 116
  refine (l91Bits_any hS HR1.out (by omega)).mono ?_
  rintro e w2 ⟨s2, rfl, hs2, hr2, hp2⟩
  have HR2 := hid hr2
  have HX2 := hid (HX1.out.trans hp2)
  have HS2 := hid hs2
  clear hr2 hp2 hs2
  go_wp2_with fail
  go_ret
  exact ⟨_, rfl, HS2.out, HR2.out.le (by omega), HX2.out⟩
end Go.Proofs.YtfogjomebcponaaGreatDoor
