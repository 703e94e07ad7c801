/- Merged: JoinS. -/
import Derived.StillTailTactics
import Derived.Test.YtfogjomebcponaaGreatDoorZGc32
namespace Go.Proofs.YtfogjomebcponaaGreatDoor
open Go.RowKit
set_option maxRecDepth 100000
set_option maxHeartbeats 4000000
def Ty.bitB : Ty → Bool
 | .bit => true
 | _ => false
def Joi (o : Option Ty) (w : World) (e : Ending) (w' : World) : Prop := e = .returned (.string (txtO o)) ∧ Below w.heap.size w w'
theorem sv_get {w : World} {p : Option Addr} {n c : Nat} {l : List ByteArray} (h : SV w p n c l) {x : ByteArray} {xs : List ByteArray} (hl : l = x :: xs) : ∃ g, p = some ⟨g, 0, none⟩ ∧ ∀ i s, l[i]? = some s → w.cell? ⟨g, i, none⟩ = some (.string s) := by
 obtain ⟨g, rfl, _⟩ := h.2.2 0 x (by rw [hl]; rfl)
 refine ⟨g, rfl, fun i s hs => ?_⟩
 obtain ⟨g2, e, hc⟩ := h.2.2 i s hs
 simp at e; subst e; exact hc
theorem join_to (h a : ByteArray) (b N cap : Nat) (x : Ty) (y : Ty) (kp : Option Addr) (kc : Nat) (w : World) (hc0 : w.cell? ⟨b, 0, none⟩ = some (.string h)) (hh : h.toList = [116, 111]) (hN : 0 < N)
    (hk : SV w kp 2 kc [x.text, y.text]) : Calls Tryz.prog 62 #[.agg #[.string a, .slice (some ⟨b, 0, none⟩) N cap], .slice kp 2 kc] w (Joi (some y) w) := by
 have k1 : Kept w (w.alloc (.cells #[.string a, .slice (some ⟨b, 0, none⟩) N cap] 43)) := (Kept.refl w).alloc (Nat.le_refl _) _
 obtain ⟨g, rfl, hkc⟩ := sv_get hk rfl
 have y0 := hkc 0 x.text rfl
 have z0 := k1.cell y0
 have y1 := hkc 1 y.text rfl
 have z1 := k1.cell y1
 have c0 := k1.cell hc0
 have e0 : (h.toList == [112, 97, 105, 114]) = false := by rw [hh]; rfl
 have e1 : (h.toList == [116, 104, 117, 110, 107]) = false := by rw [hh]; rfl
 have e2 : (h.toList == [114, 101, 116, 117, 114, 110]) = false := by rw [hh]; rfl
 have e3 : (h.toList == [102, 111, 114, 99, 101]) = false := by rw [hh]; rfl
 have e4 : (h.toList == [108, 97, 109]) = false := by rw [hh]; rfl
 have e5 : (h.toList == [97, 112, 112]) = false := by rw [hh]; rfl
 have e6 : (h.toList == [105, 102]) = false := by rw [hh]; rfl
 have e7 : (h.toList == [98, 111, 116, 104]) = false := by rw [hh]; rfl
 have e8 : (h.toList == [102, 115, 116]) = false := by rw [hh]; rfl
 have e9 : (h.toList == [115, 110, 100]) = false := by rw [hh]; rfl
 have e10 : (h.toList == [112, 117, 116]) = false := by rw [hh]; rfl
 have e11 : (h.toList == [102, 97, 105, 108]) = false := by rw [hh]; rfl
 have e12 : (h.toList == [116, 114, 121]) = false := by rw [hh]; rfl
 clear hh hk hkc hc0 y0 y1 k1
 go_enter Tryz.func62, Tryz.ntmps62
 go_wp2_with fail
 go_ret
 exact ⟨rfl, (Below.refl _ _).alloc (Nat.le_refl _) _⟩
theorem join_split (h a : ByteArray) (b N cap : Nat) (x : Ty) (y : Ty) (kp : Option Addr) (kc : Nat) (w : World) (hc0 : w.cell? ⟨b, 0, none⟩ = some (.string h)) (hh : h.toList = [115, 112, 108, 105, 116]) (hN : 0 < N)
    (hk : SV w kp 2 kc [x.text, y.text]) : Calls Tryz.prog 62 #[.agg #[.string a, .slice (some ⟨b, 0, none⟩) N cap], .slice kp 2 kc] w (Joi (some y) w) := by
 have k1 : Kept w (w.alloc (.cells #[.string a, .slice (some ⟨b, 0, none⟩) N cap] 43)) := (Kept.refl w).alloc (Nat.le_refl _) _
 obtain ⟨g, rfl, hkc⟩ := sv_get hk rfl
 have y0 := hkc 0 x.text rfl
 have z0 := k1.cell y0
 have y1 := hkc 1 y.text rfl
 have z1 := k1.cell y1
 have c0 := k1.cell hc0
 have e0 : (h.toList == [112, 97, 105, 114]) = false := by rw [hh]; rfl
 have e1 : (h.toList == [116, 104, 117, 110, 107]) = false := by rw [hh]; rfl
 have e2 : (h.toList == [114, 101, 116, 117, 114, 110]) = false := by rw [hh]; rfl
 have e3 : (h.toList == [102, 111, 114, 99, 101]) = false := by rw [hh]; rfl
 have e4 : (h.toList == [108, 97, 109]) = false := by rw [hh]; rfl
 have e5 : (h.toList == [97, 112, 112]) = false := by rw [hh]; rfl
 have e6 : (h.toList == [105, 102]) = false := by rw [hh]; rfl
 have e7 : (h.toList == [98, 111, 116, 104]) = false := by rw [hh]; rfl
 have e8 : (h.toList == [102, 115, 116]) = false := by rw [hh]; rfl
 have e9 : (h.toList == [115, 110, 100]) = false := by rw [hh]; rfl
 have e10 : (h.toList == [112, 117, 116]) = false := by rw [hh]; rfl
 have e11 : (h.toList == [102, 97, 105, 108]) = false := by rw [hh]; rfl
 have e12 : (h.toList == [116, 114, 121]) = false := by rw [hh]; rfl
 clear hh hk hkc hc0 y0 y1 k1
 go_enter Tryz.func62, Tryz.ntmps62
 go_wp2_with fail
 go_ret
 exact ⟨rfl, (Below.refl _ _).alloc (Nat.le_refl _) _⟩
theorem join_get (h a : ByteArray) (b N cap : Nat) (x : Ty) (kp : Option Addr) (kc : Nat) (w : World) (hc0 : w.cell? ⟨b, 0, none⟩ = some (.string h)) (hh : h.toList = [103, 101, 116]) (hN : 0 < N)
    (hk : SV w kp 1 kc [x.text]) : Calls Tryz.prog 62 #[.agg #[.string a, .slice (some ⟨b, 0, none⟩) N cap], .slice kp 1 kc] w (Joi (some x) w) := by
 have k1 : Kept w (w.alloc (.cells #[.string a, .slice (some ⟨b, 0, none⟩) N cap] 43)) := (Kept.refl w).alloc (Nat.le_refl _) _
 obtain ⟨g, rfl, hkc⟩ := sv_get hk rfl
 have y0 := hkc 0 x.text rfl
 have z0 := k1.cell y0
 have c0 := k1.cell hc0
 have e0 : (h.toList == [112, 97, 105, 114]) = false := by rw [hh]; rfl
 have e1 : (h.toList == [116, 104, 117, 110, 107]) = false := by rw [hh]; rfl
 have e2 : (h.toList == [114, 101, 116, 117, 114, 110]) = false := by rw [hh]; rfl
 have e3 : (h.toList == [102, 111, 114, 99, 101]) = false := by rw [hh]; rfl
 have e4 : (h.toList == [108, 97, 109]) = false := by rw [hh]; rfl
 have e5 : (h.toList == [97, 112, 112]) = false := by rw [hh]; rfl
 have e6 : (h.toList == [105, 102]) = false := by rw [hh]; rfl
 have e7 : (h.toList == [98, 111, 116, 104]) = false := by rw [hh]; rfl
 have e8 : (h.toList == [102, 115, 116]) = false := by rw [hh]; rfl
 have e9 : (h.toList == [115, 110, 100]) = false := by rw [hh]; rfl
 have e10 : (h.toList == [112, 117, 116]) = false := by rw [hh]; rfl
 have e11 : (h.toList == [102, 97, 105, 108]) = false := by rw [hh]; rfl
 have e12 : (h.toList == [116, 114, 121]) = false := by rw [hh]; rfl
 clear hh hk hkc hc0 y0 k1
 go_enter Tryz.func62, Tryz.ntmps62
 go_wp2_with fail
 go_ret
 exact ⟨rfl, (Below.refl _ _).alloc (Nat.le_refl _) _⟩
theorem join_pair (h a : ByteArray) (b N cap : Nat) (x : Ty) (y : Ty) (gx : x.good) (gy : y.good) (vx : x.isVal = true) (vy : y.isVal = true) (kp : Option Addr) (kc : Nat) (w : World) (hc0 : w.cell? ⟨b, 0, none⟩ = some (.string h)) (hh : h.toList = [112, 97, 105, 114]) (hN : 0 < N)
    (hk : SV w kp 2 kc [x.text, y.text]) : Calls Tryz.prog 62 #[.agg #[.string a, .slice (some ⟨b, 0, none⟩) N cap], .slice kp 2 kc] w (Joi (limT (some (.pair x y))) w) := by
 have k1 : Kept w (w.alloc (.cells #[.string a, .slice (some ⟨b, 0, none⟩) N cap] 43)) := (Kept.refl w).alloc (Nat.le_refl _) _
 obtain ⟨g, rfl, hkc⟩ := sv_get hk rfl
 have y0 := hkc 0 x.text rfl
 have z0 := k1.cell y0
 have y1 := hkc 1 y.text rfl
 have z1 := k1.cell y1
 have c0 := k1.cell hc0
 have e0 : (h.toList == [112, 97, 105, 114]) = true := by rw [hh]; rfl
 have sx : x.text.size ≤ 1000 := by have := txo (o := some x) (fun t h => by cases h; exact gx); rw [txtO] at this; omega
 have sy : y.text.size ≤ 1000 := by have := txo (o := some y) (fun t h => by cases h; exact gy); rw [txtO] at this; omega
 have HM := hid (fun W g c (hv : W.heap[g]? = some (.cells #[.string x.text, .string y.text] 9 (0, 0))) => l3Make_any { data := #[42] } (by decide) [x.text, y.text] (by intro u hu; simp at hu; rcases hu with rfl | rfl <;> assumption) (.pair x y) (by simp [Ty.wf, gx.1, vx, gy.1, vy]) (by simp only [Ty.atoms]; have := gx.2; have := gy.2; omega) (by rw [Ty.write]; simp only [spT, tyt]; rw [Go.ByteArray.toList_eq]; simp) (some ⟨g, 0, none⟩) 2 c W rfl (by decide) (vat hv))
 unfold Joi
 generalize txtO (limT (some (.pair x y))) = R at HM ⊢
 generalize x.text = tx at *
 generalize y.text = ty at *
 clear hh hk hkc hc0 y0 y1 k1
 clear gx gy vx vy sx sy
 go_enter Tryz.func62, Tryz.ntmps62
 go_wp2_with fail
 obtain ⟨W0, hW0⟩ : ∃ W0, w.alloc (.cells #[.string a, .slice (some ⟨b, 0, none⟩) N cap] 43) = W0 := ⟨_, rfl⟩
 have hBW : Below w.heap.size w W0 := by rw [← hW0]; exact (Below.refl w.heap.size w).alloc (Nat.le_refl _) _
 rw [hW0] at z0 z1 c0 ⊢
 go_still_tail 6, (by kernel_rfl)
 change wpList _ _ _ _ _ (World.drew _)
 generalize hW2 : World.drew W0 = W2
 have hB2 : Below w.heap.size w W2 := by rw [← hW2]; exact hBW.trans ((Below.refl _ W0).drew)
 go_wp2_with (go_at_call 100; refine (HM.out _ _ _ (hea _ _ _ rfl)).mono ?_; rintro e w1 ⟨rfl, hb1⟩)
 go_ret
 exact ⟨rfl, (hB2.alloc hB2.size _).trans (hb1.mono (by have := hB2.size; simp at this ⊢; omega))⟩
theorem join_both (h a : ByteArray) (b N cap : Nat) (x : Ty) (y : Ty) (gx : x.good) (gy : y.good) (vx : x.isVal = false) (vy : y.isVal = false) (kp : Option Addr) (kc : Nat) (w : World) (hc0 : w.cell? ⟨b, 0, none⟩ = some (.string h)) (hh : h.toList = [98, 111, 116, 104]) (hN : 0 < N)
    (hk : SV w kp 2 kc [x.text, y.text]) : Calls Tryz.prog 62 #[.agg #[.string a, .slice (some ⟨b, 0, none⟩) N cap], .slice kp 2 kc] w (Joi (limT (some (.choice x y))) w) := by
 have k1 : Kept w (w.alloc (.cells #[.string a, .slice (some ⟨b, 0, none⟩) N cap] 43)) := (Kept.refl w).alloc (Nat.le_refl _) _
 obtain ⟨g, rfl, hkc⟩ := sv_get hk rfl
 have y0 := hkc 0 x.text rfl
 have z0 := k1.cell y0
 have y1 := hkc 1 y.text rfl
 have z1 := k1.cell y1
 have c0 := k1.cell hc0
 have e0 : (h.toList == [112, 97, 105, 114]) = false := by rw [hh]; rfl
 have e1 : (h.toList == [116, 104, 117, 110, 107]) = false := by rw [hh]; rfl
 have e2 : (h.toList == [114, 101, 116, 117, 114, 110]) = false := by rw [hh]; rfl
 have e3 : (h.toList == [102, 111, 114, 99, 101]) = false := by rw [hh]; rfl
 have e4 : (h.toList == [108, 97, 109]) = false := by rw [hh]; rfl
 have e5 : (h.toList == [97, 112, 112]) = false := by rw [hh]; rfl
 have e6 : (h.toList == [105, 102]) = false := by rw [hh]; rfl
 have e7 : (h.toList == [98, 111, 116, 104]) = true := by rw [hh]; rfl
 have sx : x.text.size ≤ 1000 := by have := txo (o := some x) (fun t h => by cases h; exact gx); rw [txtO] at this; omega
 have sy : y.text.size ≤ 1000 := by have := txo (o := some y) (fun t h => by cases h; exact gy); rw [txtO] at this; omega
 have HM := hid (fun W g c (hv : W.heap[g]? = some (.cells #[.string x.text, .string y.text] 9 (0, 0))) => l3Make_any { data := #[38] } (by decide) [x.text, y.text] (by intro u hu; simp at hu; rcases hu with rfl | rfl <;> assumption) (.choice x y) (by simp [Ty.wf, gx.1, vx, gy.1, vy]) (by simp only [Ty.atoms]; have := gx.2; have := gy.2; omega) (by rw [Ty.write]; simp only [spT, tyt]; rw [Go.ByteArray.toList_eq]; simp) (some ⟨g, 0, none⟩) 2 c W rfl (by decide) (vat hv))
 unfold Joi
 generalize txtO (limT (some (.choice x y))) = R at HM ⊢
 generalize x.text = tx at *
 generalize y.text = ty at *
 clear hh hk hkc hc0 y0 y1 k1
 clear gx gy vx vy sx sy
 go_enter Tryz.func62, Tryz.ntmps62
 go_wp2_with fail
 obtain ⟨W0, hW0⟩ : ∃ W0, w.alloc (.cells #[.string a, .slice (some ⟨b, 0, none⟩) N cap] 43) = W0 := ⟨_, rfl⟩
 have hBW : Below w.heap.size w W0 := by rw [← hW0]; exact (Below.refl w.heap.size w).alloc (Nat.le_refl _) _
 rw [hW0] at z0 z1 c0 ⊢
 go_still_tail 6, (by kernel_rfl)
 change wpList _ _ _ _ _ (World.drew _)
 generalize hW2 : World.drew W0 = W2
 have hB2 : Below w.heap.size w W2 := by rw [← hW2]; exact hBW.trans ((Below.refl _ W0).drew)
 go_wp2_with (go_at_call 100; refine (HM.out _ _ _ (hea _ _ _ rfl)).mono ?_; rintro e w1 ⟨rfl, hb1⟩)
 go_ret
 exact ⟨rfl, (hB2.alloc hB2.size _).trans (hb1.mono (by have := hB2.size; simp at this ⊢; omega))⟩
theorem join_thunk (h a : ByteArray) (b N cap : Nat) (x : Ty) (gx : x.good) (vx : x.isVal = false) (kp : Option Addr) (kc : Nat) (w : World) (hc0 : w.cell? ⟨b, 0, none⟩ = some (.string h)) (hh : h.toList = [116, 104, 117, 110, 107]) (hN : 0 < N)
    (hk : SV w kp 1 kc [x.text]) : Calls Tryz.prog 62 #[.agg #[.string a, .slice (some ⟨b, 0, none⟩) N cap], .slice kp 1 kc] w (Joi (limT (some (.thunk x))) w) := by
 have k1 : Kept w (w.alloc (.cells #[.string a, .slice (some ⟨b, 0, none⟩) N cap] 43)) := (Kept.refl w).alloc (Nat.le_refl _) _
 obtain ⟨g, rfl, hkc⟩ := sv_get hk rfl
 have y0 := hkc 0 x.text rfl
 have z0 := k1.cell y0
 have c0 := k1.cell hc0
 have e0 : (h.toList == [112, 97, 105, 114]) = false := by rw [hh]; rfl
 have e1 : (h.toList == [116, 104, 117, 110, 107]) = true := by rw [hh]; rfl
 have sx : x.text.size ≤ 1000 := by have := txo (o := some x) (fun t h => by cases h; exact gx); rw [txtO] at this; omega
 have HM := hid (fun W g c (hv : W.heap[g]? = some (.cells #[.string x.text] 9 (0, 0))) => l3Make_any { data := #[117] } (by decide) [x.text] (by intro u hu; simp at hu; subst hu; assumption) (.thunk x) (by simp [Ty.wf, gx.1, vx]) (by simp only [Ty.atoms]; have := gx.2; omega) (by rw [Ty.write]; simp only [spT, tyt]; rw [Go.ByteArray.toList_eq]; simp) (some ⟨g, 0, none⟩) 1 c W rfl (by decide) (vao hv))
 unfold Joi
 generalize txtO (limT (some (.thunk x))) = R at HM ⊢
 generalize x.text = tx at *
 clear hh hk hkc hc0 y0 k1
 clear gx vx sx
 have hBW : Below w.heap.size w (w.alloc (.cells #[.string a, .slice (some ⟨b, 0, none⟩) N cap] 43)) := (Below.refl w.heap.size w).alloc (Nat.le_refl _) _
 go_enter Tryz.func62, Tryz.ntmps62
 go_wp2_with (go_at_call 100; refine (HM.out _ _ _ (hea _ _ _ (by simp))).mono ?_; rintro e w1 ⟨rfl, hb1⟩)
 go_ret
 exact ⟨rfl, (hBW.alloc hBW.size _).trans (hb1.mono (by have := hBW.size; simp at this ⊢; omega))⟩
theorem join_return (h a : ByteArray) (b N cap : Nat) (x : Ty) (gx : x.good) (vx : x.isVal = true) (kp : Option Addr) (kc : Nat) (w : World) (hc0 : w.cell? ⟨b, 0, none⟩ = some (.string h)) (hh : h.toList = [114, 101, 116, 117, 114, 110]) (hN : 0 < N)
    (hk : SV w kp 1 kc [x.text]) : Calls Tryz.prog 62 #[.agg #[.string a, .slice (some ⟨b, 0, none⟩) N cap], .slice kp 1 kc] w (Joi (limT (some (.ret x))) w) := by
 have k1 : Kept w (w.alloc (.cells #[.string a, .slice (some ⟨b, 0, none⟩) N cap] 43)) := (Kept.refl w).alloc (Nat.le_refl _) _
 obtain ⟨g, rfl, hkc⟩ := sv_get hk rfl
 have y0 := hkc 0 x.text rfl
 have z0 := k1.cell y0
 have c0 := k1.cell hc0
 have e0 : (h.toList == [112, 97, 105, 114]) = false := by rw [hh]; rfl
 have e1 : (h.toList == [116, 104, 117, 110, 107]) = false := by rw [hh]; rfl
 have e2 : (h.toList == [114, 101, 116, 117, 114, 110]) = true := by rw [hh]; rfl
 have sx : x.text.size ≤ 1000 := by have := txo (o := some x) (fun t h => by cases h; exact gx); rw [txtO] at this; omega
 have HM := hid (fun W g c (hv : W.heap[g]? = some (.cells #[.string x.text] 9 (0, 0))) => l3Make_any { data := #[102] } (by decide) [x.text] (by intro u hu; simp at hu; subst hu; assumption) (.ret x) (by simp [Ty.wf, gx.1, vx]) (by simp only [Ty.atoms]; have := gx.2; omega) (by rw [Ty.write]; simp only [spT, tyt]; rw [Go.ByteArray.toList_eq]; simp) (some ⟨g, 0, none⟩) 1 c W rfl (by decide) (vao hv))
 unfold Joi
 generalize txtO (limT (some (.ret x))) = R at HM ⊢
 generalize x.text = tx at *
 clear hh hk hkc hc0 y0 k1
 clear gx vx sx
 have hBW : Below w.heap.size w (w.alloc (.cells #[.string a, .slice (some ⟨b, 0, none⟩) N cap] 43)) := (Below.refl w.heap.size w).alloc (Nat.le_refl _) _
 go_enter Tryz.func62, Tryz.ntmps62
 go_wp2_with (go_at_call 100; refine (HM.out _ _ _ (hea _ _ _ (by simp))).mono ?_; rintro e w1 ⟨rfl, hb1⟩)
 go_ret
 exact ⟨rfl, (hBW.alloc hBW.size _).trans (hb1.mono (by have := hBW.size; simp at this ⊢; omega))⟩
theorem join_force (h a : ByteArray) (b N cap : Nat) (x : Ty) (gx : x.good) (kp : Option Addr) (kc : Nat) (w : World) (hc0 : w.cell? ⟨b, 0, none⟩ = some (.string h)) (hh : h.toList = [102, 111, 114, 99, 101]) (hN : 0 < N)
    (hk : SV w kp 1 kc [x.text]) : Calls Tryz.prog 62 #[.agg #[.string a, .slice (some ⟨b, 0, none⟩) N cap], .slice kp 1 kc] w (Joi (partO (some x) [117] 0) w) := by
 have k1 : Kept w (w.alloc (.cells #[.string a, .slice (some ⟨b, 0, none⟩) N cap] 43)) := (Kept.refl w).alloc (Nat.le_refl _) _
 obtain ⟨g, rfl, hkc⟩ := sv_get hk rfl
 have y0 := hkc 0 x.text rfl
 have z0 := k1.cell y0
 have c0 := k1.cell hc0
 have e0 : (h.toList == [112, 97, 105, 114]) = false := by rw [hh]; rfl
 have e1 : (h.toList == [116, 104, 117, 110, 107]) = false := by rw [hh]; rfl
 have e2 : (h.toList == [114, 101, 116, 117, 114, 110]) = false := by rw [hh]; rfl
 have e3 : (h.toList == [102, 111, 114, 99, 101]) = true := by rw [hh]; rfl
 have HP := hid (fun W => lpr (some x) (fun t h => by cases h; exact gx) { data := #[117] } (by rw [Go.ByteArray.toList_eq]; simp) 0 (fun t _ ht => by rw [Go.ByteArray.toList_eq] at ht; cases t <;> simp [Ty.headB, Ty.kids] at ht ⊢) W)
 rw [show ({ data := #[117] } : ByteArray).toList = [117] by rw [Go.ByteArray.toList_eq], show txtO (some x) = x.text from rfl] at HP
 unfold Joi
 generalize txtO (partO (some x) [117] 0) = R at HP ⊢
 generalize x.text = tx at *
 clear hh hk hkc hc0 y0 k1
 clear gx
 have hBW : Below w.heap.size w (w.alloc (.cells #[.string a, .slice (some ⟨b, 0, none⟩) N cap] 43)) := (Below.refl w.heap.size w).alloc (Nat.le_refl _) _
 go_enter Tryz.func62, Tryz.ntmps62
 go_wp2_with (go_at_call 101; refine (HP.out _).mono ?_; rintro e w1 ⟨rfl, hb1⟩)
 go_ret
 exact ⟨rfl, hBW.trans (hb1.mono hBW.size)⟩
theorem join_fst (h a : ByteArray) (b N cap : Nat) (x : Ty) (gx : x.good) (kp : Option Addr) (kc : Nat) (w : World) (hc0 : w.cell? ⟨b, 0, none⟩ = some (.string h)) (hh : h.toList = [102, 115, 116]) (hN : 0 < N)
    (hk : SV w kp 1 kc [x.text]) : Calls Tryz.prog 62 #[.agg #[.string a, .slice (some ⟨b, 0, none⟩) N cap], .slice kp 1 kc] w (Joi (partO (some x) [38] 0) w) := by
 have k1 : Kept w (w.alloc (.cells #[.string a, .slice (some ⟨b, 0, none⟩) N cap] 43)) := (Kept.refl w).alloc (Nat.le_refl _) _
 obtain ⟨g, rfl, hkc⟩ := sv_get hk rfl
 have y0 := hkc 0 x.text rfl
 have z0 := k1.cell y0
 have c0 := k1.cell hc0
 have e0 : (h.toList == [112, 97, 105, 114]) = false := by rw [hh]; rfl
 have e1 : (h.toList == [116, 104, 117, 110, 107]) = false := by rw [hh]; rfl
 have e2 : (h.toList == [114, 101, 116, 117, 114, 110]) = false := by rw [hh]; rfl
 have e3 : (h.toList == [102, 111, 114, 99, 101]) = false := by rw [hh]; rfl
 have e4 : (h.toList == [108, 97, 109]) = false := by rw [hh]; rfl
 have e5 : (h.toList == [97, 112, 112]) = false := by rw [hh]; rfl
 have e6 : (h.toList == [105, 102]) = false := by rw [hh]; rfl
 have e7 : (h.toList == [98, 111, 116, 104]) = false := by rw [hh]; rfl
 have e8 : (h.toList == [102, 115, 116]) = true := by rw [hh]; rfl
 have HP := hid (fun W => lpr (some x) (fun t h => by cases h; exact gx) { data := #[38] } (by rw [Go.ByteArray.toList_eq]; simp) 0 (fun t _ ht => by rw [Go.ByteArray.toList_eq] at ht; cases t <;> simp [Ty.headB, Ty.kids] at ht ⊢) W)
 rw [show ({ data := #[38] } : ByteArray).toList = [38] by rw [Go.ByteArray.toList_eq], show txtO (some x) = x.text from rfl] at HP
 unfold Joi
 generalize txtO (partO (some x) [38] 0) = R at HP ⊢
 generalize x.text = tx at *
 clear hh hk hkc hc0 y0 k1
 clear gx
 have hBW : Below w.heap.size w (w.alloc (.cells #[.string a, .slice (some ⟨b, 0, none⟩) N cap] 43)) := (Below.refl w.heap.size w).alloc (Nat.le_refl _) _
 go_enter Tryz.func62, Tryz.ntmps62
 go_wp2_with (go_at_call 101; refine (HP.out _).mono ?_; rintro e w1 ⟨rfl, hb1⟩)
 go_ret
 exact ⟨rfl, hBW.trans (hb1.mono hBW.size)⟩
theorem join_snd (h a : ByteArray) (b N cap : Nat) (x : Ty) (gx : x.good) (kp : Option Addr) (kc : Nat) (w : World) (hc0 : w.cell? ⟨b, 0, none⟩ = some (.string h)) (hh : h.toList = [115, 110, 100]) (hN : 0 < N)
    (hk : SV w kp 1 kc [x.text]) : Calls Tryz.prog 62 #[.agg #[.string a, .slice (some ⟨b, 0, none⟩) N cap], .slice kp 1 kc] w (Joi (partO (some x) [38] 1) w) := by
 have k1 : Kept w (w.alloc (.cells #[.string a, .slice (some ⟨b, 0, none⟩) N cap] 43)) := (Kept.refl w).alloc (Nat.le_refl _) _
 obtain ⟨g, rfl, hkc⟩ := sv_get hk rfl
 have y0 := hkc 0 x.text rfl
 have z0 := k1.cell y0
 have c0 := k1.cell hc0
 have e0 : (h.toList == [112, 97, 105, 114]) = false := by rw [hh]; rfl
 have e1 : (h.toList == [116, 104, 117, 110, 107]) = false := by rw [hh]; rfl
 have e2 : (h.toList == [114, 101, 116, 117, 114, 110]) = false := by rw [hh]; rfl
 have e3 : (h.toList == [102, 111, 114, 99, 101]) = false := by rw [hh]; rfl
 have e4 : (h.toList == [108, 97, 109]) = false := by rw [hh]; rfl
 have e5 : (h.toList == [97, 112, 112]) = false := by rw [hh]; rfl
 have e6 : (h.toList == [105, 102]) = false := by rw [hh]; rfl
 have e7 : (h.toList == [98, 111, 116, 104]) = false := by rw [hh]; rfl
 have e8 : (h.toList == [102, 115, 116]) = false := by rw [hh]; rfl
 have e9 : (h.toList == [115, 110, 100]) = true := by rw [hh]; rfl
 have HP := hid (fun W => lpr (some x) (fun t h => by cases h; exact gx) { data := #[38] } (by rw [Go.ByteArray.toList_eq]; simp) 1 (fun t _ ht => by rw [Go.ByteArray.toList_eq] at ht; cases t <;> simp [Ty.headB, Ty.kids] at ht ⊢) W)
 rw [show ({ data := #[38] } : ByteArray).toList = [38] by rw [Go.ByteArray.toList_eq], show txtO (some x) = x.text from rfl] at HP
 unfold Joi
 generalize txtO (partO (some x) [38] 1) = R at HP ⊢
 generalize x.text = tx at *
 clear hh hk hkc hc0 y0 k1
 clear gx
 have hBW : Below w.heap.size w (w.alloc (.cells #[.string a, .slice (some ⟨b, 0, none⟩) N cap] 43)) := (Below.refl w.heap.size w).alloc (Nat.le_refl _) _
 go_enter Tryz.func62, Tryz.ntmps62
 go_wp2_with (go_at_call 101; refine (HP.out _).mono ?_; rintro e w1 ⟨rfl, hb1⟩)
 go_ret
 exact ⟨rfl, hBW.trans (hb1.mono hBW.size)⟩
theorem join_lam (h a : ByteArray) (b N cap : Nat) (kp : Option Addr) (kc : Nat) (w : World) (y : Ty) (x : Ty) (h2n : 2 < N) (v1 v2 : Value) (q1 : w.cell? ⟨b, 4, none⟩ = some v1) (q2 : w.cell? ⟨b, 5, none⟩ = some v2) (hL : ∀ W, Kept w W → Calls Tryz.prog 71 #[.agg #[v1, v2]] W fun e w' => e = .returned (.string x.text) ∧ Below W.heap.size W w') (gx : x.good) (gy : y.good) (vx : x.isVal = true) (vy : y.isVal = false) (hc0 : w.cell? ⟨b, 0, none⟩ = some (.string h)) (hh : h.toList = [108, 97, 109]) (hN : 0 < N)
    (hk : SV w kp 1 kc [y.text]) : Calls Tryz.prog 62 #[.agg #[.string a, .slice (some ⟨b, 0, none⟩) N cap], .slice kp 1 kc] w (Joi (limT (some (.fn x y))) w) := by
 have k1 : Kept w (w.alloc (.cells #[.string a, .slice (some ⟨b, 0, none⟩) N cap] 43)) := (Kept.refl w).alloc (Nat.le_refl _) _
 obtain ⟨g, rfl, hkc⟩ := sv_get hk rfl
 have y0 := hkc 0 y.text rfl
 have z0 := k1.cell y0
 have c0 := k1.cell hc0
 have e0 : (h.toList == [112, 97, 105, 114]) = false := by rw [hh]; rfl
 have e1 : (h.toList == [116, 104, 117, 110, 107]) = false := by rw [hh]; rfl
 have e2 : (h.toList == [114, 101, 116, 117, 114, 110]) = false := by rw [hh]; rfl
 have e3 : (h.toList == [102, 111, 114, 99, 101]) = false := by rw [hh]; rfl
 have e4 : (h.toList == [108, 97, 109]) = true := by rw [hh]; rfl
 have sx : x.text.size ≤ 1000 := by have := txo (o := some x) (fun t h => by cases h; exact gx); rw [txtO] at this; omega
 have sy : y.text.size ≤ 1000 := by have := txo (o := some y) (fun t h => by cases h; exact gy); rw [txtO] at this; omega
 have r1 := k1.cell q1
 have r2 := k1.cell q2
 have HL := hid (hL _ k1)
 have HM := hid (fun W g c (hv : W.heap[g]? = some (.cells #[.string x.text, .string y.text] 9 (0, 0))) => l3Make_any { data := #[62] } (by decide) [x.text, y.text] (by intro u hu; simp at hu; rcases hu with rfl | rfl <;> assumption) (.fn x y) (by simp [Ty.wf, gx.1, vx, gy.1, vy]) (by simp only [Ty.atoms]; have := gx.2; have := gy.2; omega) (by rw [Ty.write]; simp only [spT, tyt]; rw [Go.ByteArray.toList_eq]; simp) (some ⟨g, 0, none⟩) 2 c W rfl (by decide) (vat hv))
 unfold Joi
 generalize txtO (limT (some (.fn x y))) = R at HM ⊢
 clear hL q1 q2
 generalize x.text = tx at *
 generalize y.text = ty at *
 clear hh hk hkc hc0 y0 k1
 clear gx gy vx vy sx sy
 have hBW : Below w.heap.size w (w.alloc (.cells #[.string a, .slice (some ⟨b, 0, none⟩) N cap] 43)) := (Below.refl w.heap.size w).alloc (Nat.le_refl _) _
 go_enter Tryz.func62, Tryz.ntmps62
 go_wp2_with (first
  | (go_at_call 100; have _ := hb0; refine (HM.out _ _ _ (hea _ _ _ (by simp))).mono ?_; rintro e w1 ⟨rfl, hb1⟩)
  | (go_at_call 71; refine HL.out.mono ?_; rintro e w0 ⟨rfl, hb0⟩))
 go_ret
 have hB2 := hBW.trans (hb0.mono hBW.size)
 exact ⟨rfl, (hB2.alloc hB2.size _).trans (hb1.mono (by have := hB2.size; simp at this ⊢; omega))⟩
theorem join_fail (h a : ByteArray) (b N cap : Nat) (kp : Option Addr) (kc : Nat) (w : World) (x : Ty) (h1n : 1 < N) (v1 v2 : Value) (q1 : w.cell? ⟨b, 2, none⟩ = some v1) (q2 : w.cell? ⟨b, 3, none⟩ = some v2) (hL : ∀ W, Kept w W → Calls Tryz.prog 71 #[.agg #[v1, v2]] W fun e w' => e = .returned (.string x.text) ∧ Below W.heap.size W w') (hc0 : w.cell? ⟨b, 0, none⟩ = some (.string h)) (hh : h.toList = [102, 97, 105, 108]) (hN : 0 < N) : Calls Tryz.prog 62 #[.agg #[.string a, .slice (some ⟨b, 0, none⟩) N cap], .slice kp 0 kc] w (Joi (some x) w) := by
 have k1 : Kept w (w.alloc (.cells #[.string a, .slice (some ⟨b, 0, none⟩) N cap] 43)) := (Kept.refl w).alloc (Nat.le_refl _) _
 have c0 := k1.cell hc0
 have e0 : (h.toList == [112, 97, 105, 114]) = false := by rw [hh]; rfl
 have e1 : (h.toList == [116, 104, 117, 110, 107]) = false := by rw [hh]; rfl
 have e2 : (h.toList == [114, 101, 116, 117, 114, 110]) = false := by rw [hh]; rfl
 have e3 : (h.toList == [102, 111, 114, 99, 101]) = false := by rw [hh]; rfl
 have e4 : (h.toList == [108, 97, 109]) = false := by rw [hh]; rfl
 have e5 : (h.toList == [97, 112, 112]) = false := by rw [hh]; rfl
 have e6 : (h.toList == [105, 102]) = false := by rw [hh]; rfl
 have e7 : (h.toList == [98, 111, 116, 104]) = false := by rw [hh]; rfl
 have e8 : (h.toList == [102, 115, 116]) = false := by rw [hh]; rfl
 have e9 : (h.toList == [115, 110, 100]) = false := by rw [hh]; rfl
 have e10 : (h.toList == [112, 117, 116]) = false := by rw [hh]; rfl
 have e11 : (h.toList == [102, 97, 105, 108]) = true := by rw [hh]; rfl
 have r1 := k1.cell q1
 have r2 := k1.cell q2
 have HL := hid (hL _ k1)
 unfold Joi
 rw [txtO]
 clear hL q1 q2
 generalize x.text = tx at *
 clear hh hc0 k1
 have hBW : Below w.heap.size w (w.alloc (.cells #[.string a, .slice (some ⟨b, 0, none⟩) N cap] 43)) := (Below.refl w.heap.size w).alloc (Nat.le_refl _) _
 go_enter Tryz.func62, Tryz.ntmps62
 go_wp2_with (go_at_call 71; refine HL.out.mono ?_; rintro e w0 ⟨rfl, hb0⟩)
 go_ret
 exact ⟨rfl, hBW.trans (hb0.mono hBW.size)⟩
theorem join_put (h a : ByteArray) (b N cap : Nat) (x : Ty) (y : Ty) (kp : Option Addr) (kc : Nat) (w : World) (hc0 : w.cell? ⟨b, 0, none⟩ = some (.string h)) (hh : h.toList = [112, 117, 116]) (hN : 0 < N)
    (hk : SV w kp 2 kc [x.text, y.text]) : Calls Tryz.prog 62 #[.agg #[.string a, .slice (some ⟨b, 0, none⟩) N cap], .slice kp 2 kc] w (Joi (if x.bitB = true then some y else none) w) := by
 have k1 : Kept w (w.alloc (.cells #[.string a, .slice (some ⟨b, 0, none⟩) N cap] 43)) := (Kept.refl w).alloc (Nat.le_refl _) _
 obtain ⟨g, rfl, hkc⟩ := sv_get hk rfl
 have y0 := hkc 0 x.text rfl
 have z0 := k1.cell y0
 have y1 := hkc 1 y.text rfl
 have z1 := k1.cell y1
 have c0 := k1.cell hc0
 have e0 : (h.toList == [112, 97, 105, 114]) = false := by rw [hh]; rfl
 have e1 : (h.toList == [116, 104, 117, 110, 107]) = false := by rw [hh]; rfl
 have e2 : (h.toList == [114, 101, 116, 117, 114, 110]) = false := by rw [hh]; rfl
 have e3 : (h.toList == [102, 111, 114, 99, 101]) = false := by rw [hh]; rfl
 have e4 : (h.toList == [108, 97, 109]) = false := by rw [hh]; rfl
 have e5 : (h.toList == [97, 112, 112]) = false := by rw [hh]; rfl
 have e6 : (h.toList == [105, 102]) = false := by rw [hh]; rfl
 have e7 : (h.toList == [98, 111, 116, 104]) = false := by rw [hh]; rfl
 have e8 : (h.toList == [102, 115, 116]) = false := by rw [hh]; rfl
 have e9 : (h.toList == [115, 110, 100]) = false := by rw [hh]; rfl
 have e10 : (h.toList == [112, 117, 116]) = true := by rw [hh]; rfl
 have qb : (x.text.toList == [98]) = x.bitB := by
  rw [tyt]; cases x <;> simp [Ty.write, Ty.bitB]
 unfold Joi
 by_cases hx : x.bitB = true
 ·rw [hx] at qb
  rw [if_pos hx, txtO]
  clear hx
  generalize x.text = tx at *
  generalize y.text = ty at *
  clear hh hk hkc hc0 y0 y1 k1
  go_enter Tryz.func62, Tryz.ntmps62
  go_wp2_with fail
  go_ret
  exact ⟨rfl, ((Below.refl w.heap.size w).alloc (Nat.le_refl _) _)⟩
 ·rw [eq_false_of_ne_true hx] at qb
  rw [if_neg hx, txtO]
  clear hx
  generalize x.text = tx at *
  generalize y.text = ty at *
  clear hh hk hkc hc0 y0 y1 k1
  go_enter Tryz.func62, Tryz.ntmps62
  go_wp2_with fail
  go_ret
  exact ⟨rfl, ((Below.refl w.heap.size w).alloc (Nat.le_refl _) _)⟩
theorem join_if (h a : ByteArray) (b N cap : Nat) (x : Ty) (y : Ty) (z : Ty) (kp : Option Addr) (kc : Nat) (w : World) (hc0 : w.cell? ⟨b, 0, none⟩ = some (.string h)) (hh : h.toList = [105, 102]) (hN : 0 < N)
    (hk : SV w kp 3 kc [x.text, y.text, z.text]) : Calls Tryz.prog 62 #[.agg #[.string a, .slice (some ⟨b, 0, none⟩) N cap], .slice kp 3 kc] w (Joi (if x.bitB = true then (if y.write = z.write then some y else none) else none) w) := by
 have k1 : Kept w (w.alloc (.cells #[.string a, .slice (some ⟨b, 0, none⟩) N cap] 43)) := (Kept.refl w).alloc (Nat.le_refl _) _
 obtain ⟨g, rfl, hkc⟩ := sv_get hk rfl
 have y0 := hkc 0 x.text rfl
 have z0 := k1.cell y0
 have y1 := hkc 1 y.text rfl
 have z1 := k1.cell y1
 have y2 := hkc 2 z.text rfl
 have z2 := k1.cell y2
 have c0 := k1.cell hc0
 have e0 : (h.toList == [112, 97, 105, 114]) = false := by rw [hh]; rfl
 have e1 : (h.toList == [116, 104, 117, 110, 107]) = false := by rw [hh]; rfl
 have e2 : (h.toList == [114, 101, 116, 117, 114, 110]) = false := by rw [hh]; rfl
 have e3 : (h.toList == [102, 111, 114, 99, 101]) = false := by rw [hh]; rfl
 have e4 : (h.toList == [108, 97, 109]) = false := by rw [hh]; rfl
 have e5 : (h.toList == [97, 112, 112]) = false := by rw [hh]; rfl
 have e6 : (h.toList == [105, 102]) = true := by rw [hh]; rfl
 have qb : (x.text.toList == [98]) = x.bitB := by
  rw [tyt]; cases x <;> simp [Ty.write, Ty.bitB]
 have qs : txtO (if y.write = z.write then some y else none) = if y.text.toList = z.text.toList then y.text else ByteArray.empty := by
  rw [tyt, tyt]; split <;> rfl
 unfold Joi
 by_cases hx : x.bitB = true
 ·rw [hx] at qb
  rw [if_pos hx, qs]
  have HS := hid (fun W => l3Same_any y.text z.text W)
  generalize (if y.text.toList = z.text.toList then y.text else ByteArray.empty) = R at HS ⊢
  clear hx qs
  generalize x.text = tx at *
  generalize y.text = ty at *
  generalize z.text = tz at *
  clear hh hk hkc hc0 y0 y1 y2 k1
  go_enter Tryz.func62, Tryz.ntmps62
  go_wp2_with fail
  obtain ⟨W0, hW0⟩ : ∃ W0, w.alloc (.cells #[.string a, .slice (some ⟨b, 0, none⟩) N cap] 43) = W0 := ⟨_, rfl⟩
  have hBW : Below w.heap.size w W0 := by rw [← hW0]; exact (Below.refl w.heap.size w).alloc (Nat.le_refl _) _
  rw [hW0] at z1 z2 ⊢
  go_still_tail 6, (by kernel_rfl)
  change wpList _ _ _ _ _ (World.drew _)
  generalize hW2 : World.drew W0 = W2
  have hB2 : Below w.heap.size w W2 := by rw [← hW2]; exact hBW.trans ((Below.refl _ W0).drew)
  go_wp2_with (go_at_call 102; refine (HS.out _).mono ?_; rintro e w1 ⟨rfl, rfl⟩)
  go_ret
  exact ⟨rfl, hB2⟩
 ·rw [eq_false_of_ne_true hx] at qb
  rw [if_neg hx, txtO]
  clear hx qs
  generalize x.text = tx at *
  generalize y.text = ty at *
  generalize z.text = tz at *
  clear hh hk hkc hc0 y0 y1 y2 k1
  go_enter Tryz.func62, Tryz.ntmps62
  go_wp2_with fail
  go_ret
  exact ⟨rfl, ((Below.refl w.heap.size w).alloc (Nat.le_refl _) _)⟩
theorem join_try (h a : ByteArray) (b N cap : Nat) (x : Ty) (y : Ty) (gx : x.good) (kp : Option Addr) (kc : Nat) (w : World) (hc0 : w.cell? ⟨b, 0, none⟩ = some (.string h)) (hh : h.toList = [116, 114, 121]) (hN : 0 < N)
    (hk : SV w kp 2 kc [x.text, y.text]) : Calls Tryz.prog 62 #[.agg #[.string a, .slice (some ⟨b, 0, none⟩) N cap], .slice kp 2 kc] w (Joi (if [x.headB] = [102] then (if x.write = y.write then some x else none) else none) w) := by
 have k1 : Kept w (w.alloc (.cells #[.string a, .slice (some ⟨b, 0, none⟩) N cap] 43)) := (Kept.refl w).alloc (Nat.le_refl _) _
 obtain ⟨g, rfl, hkc⟩ := sv_get hk rfl
 have y0 := hkc 0 x.text rfl
 have z0 := k1.cell y0
 have y1 := hkc 1 y.text rfl
 have z1 := k1.cell y1
 have c0 := k1.cell hc0
 have e0 : (h.toList == [112, 97, 105, 114]) = false := by rw [hh]; rfl
 have e1 : (h.toList == [116, 104, 117, 110, 107]) = false := by rw [hh]; rfl
 have e2 : (h.toList == [114, 101, 116, 117, 114, 110]) = false := by rw [hh]; rfl
 have e3 : (h.toList == [102, 111, 114, 99, 101]) = false := by rw [hh]; rfl
 have e4 : (h.toList == [108, 97, 109]) = false := by rw [hh]; rfl
 have e5 : (h.toList == [97, 112, 112]) = false := by rw [hh]; rfl
 have e6 : (h.toList == [105, 102]) = false := by rw [hh]; rfl
 have e7 : (h.toList == [98, 111, 116, 104]) = false := by rw [hh]; rfl
 have e8 : (h.toList == [102, 115, 116]) = false := by rw [hh]; rfl
 have e9 : (h.toList == [115, 110, 100]) = false := by rw [hh]; rfl
 have e10 : (h.toList == [112, 117, 116]) = false := by rw [hh]; rfl
 have e11 : (h.toList == [102, 97, 105, 108]) = false := by rw [hh]; rfl
 have e12 : (h.toList == [116, 114, 121]) = true := by rw [hh]; rfl
 have qs : txtO (if x.write = y.write then some x else none) = if x.text.toList = y.text.toList then x.text else ByteArray.empty := by
  rw [tyt, tyt]; split <;> rfl
 have HH := hid (fun W => spe x.text (by have := txo (o := some x) (fun t h => by cases h; exact gx); rw [txtO] at this; omega) W)
 rw [readTy_good_text gx] at HH
 have hh2 : (headOf (some x)).toList = [x.headB] := by rw [headOf, Go.ByteArray.toList_eq]
 unfold Joi
 have hBW : Below w.heap.size w (w.alloc (.cells #[.string a, .slice (some ⟨b, 0, none⟩) N cap] 43)) := (Below.refl w.heap.size w).alloc (Nat.le_refl _) _
 by_cases hx : [x.headB] = [102]
 ·have qb : ((headOf (some x)).toList == [102]) = true := by rw [hh2, hx]; rfl
  rw [if_pos hx, qs]
  have HS := hid (fun W => l3Same_any x.text y.text W)
  generalize (if x.text.toList = y.text.toList then x.text else ByteArray.empty) = R at HS ⊢
  generalize headOf (some x) = H at HH qb
  clear hx qs hh2 gx
  generalize x.text = tx at *
  generalize y.text = ty at *
  clear hh hk hkc hc0 y0 y1 k1
  go_enter Tryz.func62, Tryz.ntmps62
  go_wp2_with (go_at_call 103; refine (HH.out _).mono ?_; rintro e W0 ⟨rfl, hb1⟩; have zz0 := (Kept.of_below hb1 (Nat.le_refl _)).cell z0; have zz1 := (Kept.of_below hb1 (Nat.le_refl _)).cell z1; have hBW := hBW.trans (hb1.mono hBW.size))
  go_still_tail 6, (by kernel_rfl)
  change wpList _ _ _ _ _ (World.drew _)
  generalize hW2 : World.drew W0 = W2
  have hB2 : Below w.heap.size w W2 := by rw [← hW2]; exact hBW.trans ((Below.refl _ W0).drew)
  go_wp2_with (go_at_call 102; refine (HS.out _).mono ?_; rintro e w1 ⟨rfl, rfl⟩)
  go_ret
  exact ⟨rfl, hB2⟩
 ·have qb : ((headOf (some x)).toList == [102]) = false := by rw [hh2, beq_eq_false_iff_ne]; exact hx
  rw [if_neg hx, txtO]
  generalize headOf (some x) = H at HH qb
  clear hx qs hh2 gx
  generalize x.text = tx at *
  generalize y.text = ty at *
  clear hh hk hkc hc0 y0 y1 k1
  go_enter Tryz.func62, Tryz.ntmps62
  go_wp2_with (go_at_call 103; refine (HH.out _).mono ?_; rintro e W0 ⟨rfl, hb1⟩)
  go_ret
  exact ⟨rfl, hBW.trans (hb1.mono hBW.size)⟩
theorem join_app (h a : ByteArray) (b N cap : Nat) (x : Ty) (y : Ty) (gx : x.good) (kp : Option Addr) (kc : Nat) (w : World) (hc0 : w.cell? ⟨b, 0, none⟩ = some (.string h)) (hh : h.toList = [97, 112, 112]) (hN : 0 < N)
    (hk : SV w kp 2 kc [x.text, y.text]) : Calls Tryz.prog 62 #[.agg #[.string a, .slice (some ⟨b, 0, none⟩) N cap], .slice kp 2 kc] w (Joi (if (txtO (partO (some x) [62] 0)).toList = y.text.toList then partO (some x) [62] 1 else none) w) := by
 have k1 : Kept w (w.alloc (.cells #[.string a, .slice (some ⟨b, 0, none⟩) N cap] 43)) := (Kept.refl w).alloc (Nat.le_refl _) _
 obtain ⟨g, rfl, hkc⟩ := sv_get hk rfl
 have y0 := hkc 0 x.text rfl
 have z0 := k1.cell y0
 have y1 := hkc 1 y.text rfl
 have z1 := k1.cell y1
 have c0 := k1.cell hc0
 have e0 : (h.toList == [112, 97, 105, 114]) = false := by rw [hh]; rfl
 have e1 : (h.toList == [116, 104, 117, 110, 107]) = false := by rw [hh]; rfl
 have e2 : (h.toList == [114, 101, 116, 117, 114, 110]) = false := by rw [hh]; rfl
 have e3 : (h.toList == [102, 111, 114, 99, 101]) = false := by rw [hh]; rfl
 have e4 : (h.toList == [108, 97, 109]) = false := by rw [hh]; rfl
 have e5 : (h.toList == [97, 112, 112]) = true := by rw [hh]; rfl
 have HP := hid (fun W => lpr (some x) (fun t h => by cases h; exact gx) { data := #[62] } (by rw [Go.ByteArray.toList_eq]; simp) 0 (fun t _ ht => by rw [Go.ByteArray.toList_eq] at ht; cases t <;> simp [Ty.headB, Ty.kids] at ht ⊢) W)
 rw [show ({ data := #[62] } : ByteArray).toList = [62] by rw [Go.ByteArray.toList_eq], show txtO (some x) = x.text from rfl] at HP
 have HQ := hid (fun W => lpr (some x) (fun t h => by cases h; exact gx) { data := #[62] } (by rw [Go.ByteArray.toList_eq]; simp) 1 (fun t _ ht => by rw [Go.ByteArray.toList_eq] at ht; cases t <;> simp [Ty.headB, Ty.kids] at ht ⊢) W)
 rw [show ({ data := #[62] } : ByteArray).toList = [62] by rw [Go.ByteArray.toList_eq], show txtO (some x) = x.text from rfl] at HQ
 unfold Joi
 have hBW : Below w.heap.size w (w.alloc (.cells #[.string a, .slice (some ⟨b, 0, none⟩) N cap] 43)) := (Below.refl w.heap.size w).alloc (Nat.le_refl _) _
 by_cases hx : (txtO (partO (some x) [62] 0)).toList = y.text.toList
 ·have qb : ((txtO (partO (some x) [62] 0)).toList == y.text.toList) = true := by rw [hx]; simp
  rw [if_pos hx]
  generalize txtO (partO (some x) [62] 0) = P at HP qb
  generalize txtO (partO (some x) [62] 1) = R at HQ ⊢
  clear hx gx
  generalize x.text = tx at *
  generalize y.text = ty at *
  clear hh hk hkc hc0 y0 y1 k1
  go_enter Tryz.func62, Tryz.ntmps62
  go_wp2_with fail
  go_region_with (go_at_call 101; refine (HP.out _).mono ?_; rintro e w1 ⟨rfl, hb1⟩; have zz0 := (Kept.of_below hb1 (Nat.le_refl _)).cell z0; have zz1 := (Kept.of_below hb1 (Nat.le_refl _)).cell z1)
  all_goals
   go_wp2_with (go_at_call 101; refine (HQ.out _).mono ?_; rintro e w2 ⟨rfl, hb2⟩)
   go_ret
   exact ⟨rfl, hBW.trans (((Below.refl w.heap.size _).drew).trans ((hb1.trans (hb2.mono hb1.size)).mono (show w.heap.size ≤ _ from hBW.size)))⟩
 ·have qb : ((txtO (partO (some x) [62] 0)).toList == y.text.toList) = false := by rw [beq_eq_false_iff_ne]; exact hx
  rw [if_neg hx, txtO]
  generalize txtO (partO (some x) [62] 0) = P at HP qb
  clear hx gx HQ
  generalize x.text = tx at *
  generalize y.text = ty at *
  clear hh hk hkc hc0 y0 y1 k1
  go_enter Tryz.func62, Tryz.ntmps62
  go_wp2_with fail
  go_region_with (go_at_call 101; refine (HP.out _).mono ?_; rintro e w1 ⟨rfl, hb1⟩; have zz0 := (Kept.of_below hb1 (Nat.le_refl _)).cell z0; have zz1 := (Kept.of_below hb1 (Nat.le_refl _)).cell z1)
  all_goals
   go_wp2_with fail
   go_ret
   exact ⟨rfl, hBW.trans (((Below.refl w.heap.size _).drew).trans (hb1.mono (show w.heap.size ≤ _ from hBW.size)))⟩
end Go.Proofs.YtfogjomebcponaaGreatDoor
