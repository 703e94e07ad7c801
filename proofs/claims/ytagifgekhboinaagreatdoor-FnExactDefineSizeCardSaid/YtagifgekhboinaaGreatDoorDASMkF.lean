/- Merged: MkF. -/
import Derived.Deep.RegionHeld3
import Derived.Test.YtagifgekhboinaaGreatDoorDA29
import Derived.Test.YtagifgekhboinaaGreatDoorDA9
namespace Go.Proofs.YtagifgekhboinaaGreatDoor
open Go.RowKit

set_option maxRecDepth 100000 in
set_option maxHeartbeats 4000000 in
theorem l6dOutcome_fail (mb c a : Nat) (S : Nat → Prop) (hS : Own mb S) (t : Tree) (ta : ByteArray) (tp : Option Addr) (tl tc : Nat) (w : World) (ht : TIn w S t ⟨ta, tp, tl, tc⟩) (hM : MIn mb c a w) (ha : a ≤ 19000) : Calls Tryz.prog 49 #[.pointer (some ⟨mb, 0, none⟩), .agg #[.string ta, .slice tp tl tc], .int .i64 0] w (LPost mb c a 1 S (.node [.atom wFail, t]) w) := by
  have hlt := hM.lt
  have hg0 : w.grownBy ((w.alloc (.cells #[.string ta, .slice tp tl tc] 48)).alloc (.cells #[.string ({ data := #[] } : ByteArray), .slice none 0 0] 48)) (some mb) := (World.grownBy_alloc w (.cells #[.string ta, .slice tp tl tc] 48) (some mb)).trans (World.grownBy_alloc (w.alloc (.cells #[.string ta, .slice tp tl tc] 48)) (.cells #[.string ({ data := #[] } : ByteArray), .slice none 0 0] 48) (some mb))
  have HO := hid (hS.bt hlt (w.heap.size + 1))
  have hv0 : TIn ((w.alloc (.cells #[.string ta, .slice tp tl tc] 48)).alloc (.cells #[.string ({ data := #[] } : ByteArray), .slice none 0 0] 48)) (Bt w (w.heap.size + 1) S) t ⟨ta, tp, tl, tc⟩ := ht.enter hg0 hS
  have hm0 : MIn mb c a ((w.alloc (.cells #[.string ta, .slice tp tl tc] 48)).alloc (.cells #[.string ({ data := #[] } : ByteArray), .slice none 0 0] 48)) := hM.below (((Below.refl _ _).alloc (Nat.le_refl _) _).alloc (by simp) _)
  have hr0 : ((w.alloc (.cells #[.string ta, .slice tp tl tc] 48)).alloc (.cells #[.string ({ data := #[] } : ByteArray), .slice none 0 0] 48)).heap[w.heap.size + 1]? = some (.cells #[.string ({ data := #[] } : ByteArray), .slice none 0 0] 48) := heap_new _ _ _ (by simp)
  have HG0 := hid hg0
  have hll := list_row mb c a ({ data := #[102, 97, 105, 108] } : ByteArray) (by decide) (by decide) [⟨ta, tp, tl, tc⟩] 1 1 rfl (by decide) (by decide) [t] rfl (Bt w (w.heap.size + 1) S) HO.out _ hm0 (by omega) #[.string ta, .slice tp tl tc] rfl (parts_one hv0)
  rw [show ((w.alloc (.cells #[.string ta, .slice tp tl tc] 48)).alloc (.cells #[.string ({ data := #[] } : ByteArray), .slice none 0 0] 48)).heap.size = w.heap.size + 1 + 1 by simp] at hll
  have HL := hid hll
  have HR0 := hid (block_grown hr0 (World.grownBy_alloc ((w.alloc (.cells #[.string ta, .slice tp tl tc] 48)).alloc (.cells #[.string ({ data := #[] } : ByteArray), .slice none 0 0] 48)) (.cells #[.string ta, .slice tp tl tc] 48) none) (by simp))
  clear hS ht hM hg0 hv0 hm0 hr0 hll
  go_enter Tryz.func49, Tryz.ntmps49
  go_wp2_with (go_at_call 47; refine (HL.out).mono ?_; rintro e w2 ⟨⟨xa, xp, xl, xc⟩, a2, rfl, hg2, ha2, hm2, ht2⟩; have hr2 := block_grown HR0.out hg2 (by simp; omega); obtain ⟨k1, k2, k3, k4⟩ := cells_of_pair hr2; have HG2 := hid hg2; have HA2 := hid ha2; have HM2 := hid hm2; have HT2 := hid ht2; clear hg2 ha2 hm2 ht2 hr2)
  refine bodyPost_ret (v := .agg #[.string xa, .slice xp xl xc]) (by simp [results, Tryz.results49, go_sem, k1, k2]) rfl ?_
  exact LPost.res (HT2.out.aft (by simp) (by simp; omega)) ((HG0.out.trans (World.grownBy_alloc _ _ (some mb))).trans HG2.out) HM2.out HA2.out (by omega) hlt

set_option maxRecDepth 100000 in
set_option maxHeartbeats 4000000 in
theorem l6dOutcome_put (x : Ty) (xn o mb c c1 a k : Nat) (V : Tree) (S : Nat → Prop) (hS : Own mb S) (ta : ByteArray) (tp : Option Addr) (tl tc : Nat) (w : World) (ht : TIn w S (Ty.ret x).tree ⟨ta, tp, tl, tc⟩) (hM : MIn mb c a w) (ha : a + k ≤ 18000) (hwf : x.wf = true) (hx : x.cnt = some xn) (ho : 1 ≤ o) (ho2 : o ≤ 2 * xn) (ho5 : o ≤ 5000)
    (H : ∀ (S : Nat → Prop) (h : Hd) W a', Own mb S → TIn W S x.tree h → MIn mb c a' W → a' ≤ a → Calls Tryz.prog 23 #[.pointer (some ⟨mb, 0, none⟩), .agg #[.string h.a, .slice h.p h.l h.c], .int .i64 (((o - 1) % xn : Nat) : Int)] W (LPost mb c1 a' k S V W)) :
    Calls Tryz.prog 49 #[.pointer (some ⟨mb, 0, none⟩), .agg #[.string ta, .slice tp tl tc], .int .i64 (o : Int)] w (LPost mb c1 a (k + 3) S (.node [.atom wPut, bitT ((o - 1) / xn), .node [.atom wReturn, V]]) w) := by
  have hlt := hM.lt
  obtain ⟨tb, a0, a1, q0, q1, l0, l1, c0, cc1, rfl, rfl, rfl, hc2, hcm, hSb, -, g2, g3, -, hx1⟩ := node_two (p0 := .atom ⟨#[102]⟩) (p1 := x.tree) ht
  have hbm : tb ≠ mb := hS tb hSb
  have hr := cnt_range x xn hx
  have HO := hid (hS.bt hlt (w.heap.size + 1))
  have hg0 : w.grownBy ((w.alloc (.cells #[.string ({ data := #[] } : ByteArray), .slice (some ⟨tb, 0, none⟩) 2 tc] 48)).alloc (.cells #[.string ({ data := #[] } : ByteArray), .slice none 0 0] 48)) (some mb) := (World.grownBy_alloc w (.cells #[.string ({ data := #[] } : ByteArray), .slice (some ⟨tb, 0, none⟩) 2 tc] 48) (some mb)).trans (World.grownBy_alloc (w.alloc (.cells #[.string ({ data := #[] } : ByteArray), .slice (some ⟨tb, 0, none⟩) 2 tc] 48)) (.cells #[.string ({ data := #[] } : ByteArray), .slice none 0 0] 48) (some mb))
  have HX0 := hid (show TIn ((w.alloc (.cells #[.string ({ data := #[] } : ByteArray), .slice (some ⟨tb, 0, none⟩) 2 tc] 48)).alloc (.cells #[.string ({ data := #[] } : ByteArray), .slice none 0 0] 48)) (Bt w (w.heap.size + 1) S) x.tree ⟨a1, q1, l1, cc1⟩ from hx1.enter hg0 hS)
  have HM0 := hid (show MIn mb c a ((w.alloc (.cells #[.string ({ data := #[] } : ByteArray), .slice (some ⟨tb, 0, none⟩) 2 tc] 48)).alloc (.cells #[.string ({ data := #[] } : ByteArray), .slice none 0 0] 48)) from hM.below (((Below.refl _ _).alloc (Nat.le_refl _) _).alloc (by simp) _))
  have KB := hid (fun W (h : ((w.alloc (.cells #[.string ({ data := #[] } : ByteArray), .slice (some ⟨tb, 0, none⟩) 2 tc] 48)).alloc (.cells #[.string ({ data := #[] } : ByteArray), .slice none 0 0] 48)).grownBy W (some mb)) => (show (W.cell? ⟨w.heap.size, 0, none⟩ = some (.string ({ data := #[] } : ByteArray)) ∧ W.cell? ⟨w.heap.size, 1, none⟩ = some (.slice (some ⟨tb, 0, none⟩) 2 tc) ∧ W.cell? ⟨tb, 2, none⟩ = some (.string a1) ∧ W.cell? ⟨tb, 3, none⟩ = some (.slice q1 l1 cc1)) ∧ W.heap[w.heap.size + 1]? = some (.cells #[.string ({ data := #[] } : ByteArray), .slice none 0 0] 48) ∧ w.grownBy W (some mb) ∧ w.heap.size + 2 ≤ W.heap.size from by
    have h1 := block_grown (block_grown (heap_new w (.cells #[.string ({ data := #[] } : ByteArray), .slice (some ⟨tb, 0, none⟩) 2 tc] 48) _ rfl) (World.grownBy_alloc _ (.cells #[.string ({ data := #[] } : ByteArray), .slice none 0 0] 48) none) (by simp)) h (by simp; omega)
    have h2 := block_grown (heap_new (w.alloc (.cells #[.string ({ data := #[] } : ByteArray), .slice (some ⟨tb, 0, none⟩) 2 tc] 48)) (.cells #[.string ({ data := #[] } : ByteArray), .slice none 0 0] 48) (w.heap.size + 1) (by simp)) h (by simp; omega)
    have hsz := h.size
    simp at hsz
    exact ⟨⟨Trn.cell h1 rfl, Trn.cell h1 rfl, cell_keptM g2 (hg0.trans h) hbm, cell_keptM g3 (hg0.trans h) hbm⟩, h2, hg0.trans h, by omega⟩))
  have HC := hid (fun W (h : TIn W (Bt w (w.heap.size + 1) S) x.tree ⟨a1, q1, l1, cc1⟩) => (show Calls Tryz.prog 21 #[.agg #[.string a1, .slice q1 l1 cc1]] W fun e w' => e = .returned (.int .i64 (xn : Int)) ∧ Below W.heap.size W w' from by have := l1Count_any h x (tree_ty x hwf) W (Kept.refl _) (Nat.le_refl _); rw [hx] at this; exact this))
  have HD := hid (fun W (h : TIn W (Bt w (w.heap.size + 1) S) x.tree ⟨a1, q1, l1, cc1⟩) (hm : MIn mb c a W) => H (Bt w (w.heap.size + 1) S) ⟨a1, q1, l1, cc1⟩ W a HO.out h hm (Nat.le_refl _))
  have hq : (((o - 1 : Nat) : Int)) = (o : Int) - 1 := by omega
  have hbt : (o - 1) / xn < 2 := Nat.div_lt_of_lt_mul (by omega)
  have HB := hid (fun W => l4Bit_any ((o - 1) / xn) hbt W)
  have n1 := wrap_quot (o - 1) xn (by omega)
  have n2 := wrap_quot_e (o - 1) xn (by omega)
  have n3 := quot_t (o - 1) xn
  have n4 := rest_t (o - 1) xn
  have n5 := rest_e (o - 1) xn
  have n6 : IntKind.i64.wrap ((o : Int) - 1) = (o : Int) - 1 := IntWalk.i64_in _ (by omega)
  have hy0 : (xn : Int) ≠ 0 := by omega
  have hy1 : xn ≠ 0 := by omega
  have hy3 : ((xn : Int) == 0) = false := by simp; omega
  have o0 : ((o : Int) == 0) = false := by simp; omega
  rw [hq] at n1 n2 n3 n4 n5
  obtain ⟨q, hqq⟩ : ∃ q, (o - 1) / xn = q := ⟨_, rfl⟩
  obtain ⟨r, hrr⟩ : ∃ r, (o - 1) % xn = r := ⟨_, rfl⟩
  rw [hqq] at HB n1 n2 n3 hbt
  have HH := hid H
  rw [hrr] at HD HH n4 n5
  rw [hqq]
  have n7 : IntKind.i64.wrap (r : Int) = r := IntWalk.i64_in _ (by have := Nat.mod_lt (o - 1) (show 0 < xn by omega); omega)
  have n8 : IntKind.i64.wrap (q : Int) = q := IntWalk.i64_in _ (by omega)
  have j1 : (0 : Int) ≤ 1 ∧ (1 : Int) < 2 := by decide
  have hcm' : tc ≤ 9223372036854775807 := by unfold maxLen at hcm; omega
  have hX := (KB.out _ (World.grownBy.refl _ _)).1
  obtain ⟨d1, d2, d3, d4⟩ := hX
  clear hS ht hM hg0 hx1 g2 g3 H hwf hx hq hqq hrr hSb hcm ho2
  have HL1 := hid (fun W a1 va vp vl vc pg (h : MIn mb c1 a1 W) (h1 : a1 ≤ 20000) (hb : W.heap[pg]? = some (.cells #[.string va, .slice vp vl vc] 48 (0, 0))) (hp : pg ≠ mb) (hv : TIn W (Bt w (w.heap.size + 1) S) V ⟨va, vp, vl, vc⟩) => list_at mb c1 a1 ({ data := #[114, 101, 116, 117, 114, 110] } : ByteArray) (by decide) (by decide) [⟨va, vp, vl, vc⟩] 1 1 pg rfl (by decide) (by decide) [V] rfl (Bt w (w.heap.size + 1) S) HO.out W h h1 #[.string va, .slice vp vl vc] hb rfl hp (parts_one hv))
  have HL2 := hid (fun W a1 ya yp yl yc (h : MIn mb c1 a1 W) (h1 : a1 ≤ 20000) (hy : TIn W (Bt w (w.heap.size + 1) S) (.node [.atom wReturn, V]) ⟨ya, yp, yl, yc⟩) => list_row mb c1 a1 ({ data := #[112, 117, 116] } : ByteArray) (by decide) (by decide) [⟨bitS q, none, 0, 0⟩, ⟨ya, yp, yl, yc⟩] 2 2 rfl (by decide) (by decide) [bitT q, .node [.atom wReturn, V]] rfl (Bt w (w.heap.size + 1) S) HO.out W h h1 #[.string (bitS q), .slice none 0 0, .string ya, .slice yp yl yc] rfl (parts_two (bit_in W _ q) hy))
  go_enter Tryz.func49, Tryz.ntmps49
  go_wp2_with (go_at_call 21; refine (HC.out _ HX0.out).mono ?_; rintro e w1 ⟨rfl, hb1⟩; have hg1 := grown_any hb1 (some mb); obtain ⟨⟨e11, e12, e13, e14⟩, -, -, hz1⟩ := KB.out w1 hg1; have HG1 := hid hg1; have HM1 := hid (HM0.out.below hb1); have HX1 := hid (HX0.out.keepM hg1 HO.out); clear hb1 hg1)
  have HN1 := hid (show w.heap.size + 2 ≤ w1.heap.size from hz1)
  have HM1A := hid (HM1.out.below (((Below.refl w1.heap.size w1).alloc (Nat.le_refl _) (.cells #[.string ({ data := #[] } : ByteArray), .slice none 0 0] 48)).drew))
  have HM1D := hid (HM1.out.below ((Below.refl w1.heap.size w1).drew))
  have hkA := (KB.out _ (HG1.out.trans (World.grownBy_alloc w1 (.cells #[.string ({ data := #[] } : ByteArray), .slice none 0 0] 48) (some mb)))).1
  obtain ⟨g1, g2, g3, g4⟩ := hkA
  have HX1D := hid (show TIn w1.drew (Bt w (w.heap.size + 1) S) x.tree ⟨a1, q1, l1, cc1⟩ from HX1.out.keepM (grown_any ((Below.refl _ _).drew) (some mb)) HO.out)
  have HX1A := hid (show TIn (w1.alloc (.cells #[.string ({ data := #[] } : ByteArray), .slice none 0 0] 48)).drew (fun j => Bt w (w.heap.size + 1) S j ∧ j ≠ w1.heap.size) x.tree ⟨a1, q1, l1, cc1⟩ from HX1.out.keep (fun k _ hk => heap_alloc_old w1 _ hk) (fun k hk hl => ⟨hk, by omega⟩))
  have HDA := hid (fun W (h : TIn W (fun j => Bt w (w.heap.size + 1) S j ∧ j ≠ w1.heap.size) x.tree ⟨a1, q1, l1, cc1⟩) (hm : MIn mb c a W) => HH.out (fun j => Bt w (w.heap.size + 1) S j ∧ j ≠ w1.heap.size) ⟨a1, q1, l1, cc1⟩ W a (fun j hj => HO.out j hj.1) h hm (Nat.le_refl _))
  go_region_held3 (fun w' => w'.cell? ⟨w.heap.size, 0, none⟩ = some (.string ({ data := #[] } : ByteArray)) ∧ w'.cell? ⟨w.heap.size, 1, none⟩ = some (.slice (some ⟨tb, 0, none⟩) 2 tc) ∧ w'.cell? ⟨tb, 2, none⟩ = some (.string a1) ∧ w'.cell? ⟨tb, 3, none⟩ = some (.slice q1 l1 cc1))
    (first | exact ⟨e11, e12, e13, e14⟩ | exact ⟨f11, f12, f13, f14⟩ | exact ⟨e31, e32, e33, e34⟩ | exact ⟨e21, e22, e23, e24⟩ | exact ⟨g1, g2, g3, g4⟩ | exact ⟨i1, i2, i3, i4⟩)
    (first
      | (go_at_call 23; refine (HD.out w1.drew HX1D.out HM1D.out).mono ?_; rintro e w2 ⟨⟨va, vp, vl, vc⟩, a2, rfl, hg2, ha2, hm2, ht2⟩; obtain ⟨hg12, hg1f, hmf, hbx⟩ := bx_behind (by have := HN1.out; omega) (by have := HN1.out; omega) hg2 hm2 ht2; obtain ⟨⟨e21, e22, e23, e24⟩, -, -, -⟩ := KB.out w2 (HG1.out.trans hg12); obtain ⟨⟨e31, e32, e33, e34⟩, -, -, -⟩ := KB.out _ (HG1.out.trans hg1f); obtain ⟨⟨i1, i2, i3, i4⟩, -, -, -⟩ := KB.out _ ((HG1.out.trans hg12).trans (World.grownBy_alloc w2 (.cells #[.string ({ data := #[] } : ByteArray), .slice none 0 0] 48) (some mb))); have HGF := hid (HG1.out.trans hg1f); have HMF := hid hmf; have HBX := hid hbx; have HA2 := hid ha2; clear hg2 hm2 ht2 hg12 hg1f hmf hbx ha2)
      | (go_at_call 23; refine (HDA.out (w1.alloc (.cells #[.string ({ data := #[] } : ByteArray), .slice none 0 0] 48)).drew HX1A.out HM1A.out).mono ?_; rintro e w2 ⟨⟨va, vp, vl, vc⟩, a2, rfl, hg2, ha2, hm2, ht2⟩; obtain ⟨⟨k1, k2, k3, k4⟩, hg12, hg1f, hmf, hbx⟩ := bx_before (by have := HN1.out; omega) (by have := HN1.out; omega) hlt hg2 hm2 ht2; obtain ⟨⟨e21, e22, e23, e24⟩, -, -, -⟩ := KB.out w2 (HG1.out.trans hg12); obtain ⟨⟨e31, e32, e33, e34⟩, -, -, -⟩ := KB.out _ (HG1.out.trans hg1f); have HGF := hid (HG1.out.trans hg1f); have HMF := hid hmf; have HBX := hid hbx; have HA2 := hid ha2; clear hg2 hm2 ht2 hg12 hg1f hmf hbx ha2))
  · obtain ⟨Wf, hWf⟩ : ∃ Wf, w2.alloc (.cells #[.string va, .slice vp vl vc] 48) = Wf := ⟨_, rfl⟩
    obtain ⟨vb, hvb⟩ : ∃ vb, w2.heap.size = vb := ⟨_, rfl⟩
    rw [hWf] at HGF HMF HBX ⊢
    rw [hvb] at HBX ⊢
    clear e11 e12 e13 e14 e21 e22 e23 e24 e31 e32 e33 e34 g1 g2 g3 g4 i1 i2 i3 i4 d1 d2 d3 d4 hWf hvb HX1A HX1D HM1A HM1D HDA HD HH HC
    go_wp2_with fail
    obtain ⟨v1, v2⟩ := HBX.out.cells
    obtain ⟨l1', l2'⟩ := (HBX.out.keepM (World.grownBy_alloc Wf (.cells #[.string va, .slice vp vl vc] 48) (some mb)) HO.out hlt).cells
    go_region_held3 (fun w' => w'.cell? ⟨vb, 0, none⟩ = some (.string va) ∧ w'.cell? ⟨vb, 1, none⟩ = some (.slice vp vl vc))
      (first | exact ⟨v1, v2⟩ | exact ⟨l1', l2'⟩ | exact ⟨m11, m12⟩ | exact ⟨m21, m22⟩ | exact ⟨m31, m32⟩ | exact ⟨m41, m42⟩ | exact ⟨m51, m52⟩ | exact ⟨m61, m62⟩)
      (first
        | (have _ := HM4; go_at_call 47; refine (HL2.out w5 a4 ya yp yl yc HM4.out (by have := HA2.out; have := HA4.out; omega) HY4.out).mono ?_; rintro e w6 ⟨⟨xa, xp, xl, xc⟩, a5, rfl, hg6, ha6, hm6, ht6⟩; have hg06 := HG5.out.trans hg6; obtain ⟨-, hr6, hw6, hz6⟩ := KB.out w6 hg06; obtain ⟨k1, k2, k3, k4⟩ := cells_of_pair hr6; have hgp := grown_pair w6 (w.heap.size + 1) (.string xa) (.slice xp xl xc); have hbx6 := HBX5.out.keepM hg6 HO.out hlt; obtain ⟨m51, m52⟩ := hbx6.cells; have hvk := block_grown hbx6.1 hgp (by have := hbx6.2.2.2; simp; omega); have m61 := Trn.cell (i := 0) hvk rfl; have m62 := Trn.cell (i := 1) hvk rfl; have HT6 := hid (ht6.aft (r := w.heap.size + 1) (w := w) (by have := HS5.out; simp; omega) (by have := HS5.out; simp; omega)); have HW6 := hid hw6; have HR6 := hid hr6; have HM6 := hid hm6; have HA6 := hid ha6; clear hg6 ha6 hm6 ht6 hg06 hr6 hw6 hgp hbx6 hvk)
        | (have _ := HML; go_at_call 47; refine (HL1.out _ a2 va vp vl vc _ HML.out (by have := HA2.out; omega) HBLK.out (by have := HPG.out; omega) HBXL.out.2.1).mono ?_; rintro e w5 ⟨⟨ya, yp, yl, yc⟩, a4, rfl, hg5, ha4, hm4, ht4⟩; have hg05 := HGL.out.trans hg5; obtain ⟨-, -, -, hz5⟩ := KB.out w5 hg05; have hbx5 := HBXL.out.keepM hg5 HO.out hlt; obtain ⟨m31, m32⟩ := hbx5.cells; have hbx5a := hbx5.keepM (World.grownBy_alloc w5 (.cells #[.string (bitS q), .slice none 0 0, .string ya, .slice yp yl yc] 48) (some mb)) HO.out hlt; obtain ⟨m41, m42⟩ := hbx5a.cells; have HBX5 := hid hbx5a; have HG5 := hid (hg05.trans (World.grownBy_alloc w5 (.cells #[.string (bitS q), .slice none 0 0, .string ya, .slice yp yl yc] 48) (some mb))); have HY4 := hid (ht4.aft (r := w.heap.size + 1) (w := w) (by have := HSL.out; omega) (by have := HSL.out; omega)); have HA4 := hid ha4; have HM4 := hid hm4; have HS5 := hid hz5; clear hg5 ha4 hm4 ht4 hg05 hz5 hbx5 hbx5a)
        | (go_at_call 46; refine (HB.out Wf.drew).mono ?_; rintro e w3 ⟨rfl, hb3⟩; have hgd := grown_any (((Below.refl Wf.heap.size Wf).drew).trans hb3) (some mb); have hbx3 := HBX.out.keepM hgd HO.out hlt; obtain ⟨m11, m12⟩ := hbx3.cells; have hbxl := hbx3.keepM (World.grownBy_alloc w3 (.cells #[.string va, .slice vp vl vc] 48) (some mb)) HO.out hlt; obtain ⟨m21, m22⟩ := hbxl.cells; have hgl := (HGF.out.trans hgd).trans (World.grownBy_alloc w3 (.cells #[.string va, .slice vp vl vc] 48) (some mb)); obtain ⟨-, -, -, hzl⟩ := KB.out _ hgl; have hz3 := (HGF.out.trans hgd).size; have hmx := hlt; have HBXL := hid hbxl; have HGL := hid hgl; have HSL := hid hzl; have HBLK := hid (heap_new w3 (.cells #[.string va, .slice vp vl vc] 48) w3.heap.size rfl); have HPG := hid (show mb < w3.heap.size by have := hgd.size; have := (KB.out _ HGF.out).2.2.2; omega); have HML := hid ((HMF.out.below (((Below.refl Wf.heap.size Wf).drew).trans hb3)).below ((Below.refl _ _).alloc (Nat.le_refl _) (.cells #[.string va, .slice vp vl vc] 48))); clear hb3 hgd hbx3 hbxl hgl hzl hz3 hmx)
        | (go_at_call 46; refine (HB.out (Wf.alloc (.cells #[.string va, .slice vp vl vc] 48)).drew).mono ?_; rintro e w3 ⟨rfl, hb3⟩; have hbb := (((Below.refl Wf.heap.size Wf).alloc (Nat.le_refl _) (.cells #[.string va, .slice vp vl vc] 48)).drew).trans (hb3.mono (by show Wf.heap.size ≤ (Wf.alloc (.cells #[.string va, .slice vp vl vc] 48)).heap.size; simp)); have hgd := grown_any hbb (some mb); have hbx3 := HBX.out.keepM hgd HO.out hlt; obtain ⟨m11, m12⟩ := hbx3.cells; have hgl := HGF.out.trans hgd; obtain ⟨-, -, -, hzl⟩ := KB.out _ hgl; have HBXL := hid hbx3; have HGL := hid hgl; have HSL := hid hzl; have HBLK := hid (block_below (show (Wf.alloc (.cells #[.string va, .slice vp vl vc] 48)).drew.heap[Wf.heap.size]? = some (.cells #[.string va, .slice vp vl vc] 48) from heap_new Wf (.cells #[.string va, .slice vp vl vc] 48) Wf.heap.size rfl) hb3 (by show Wf.heap.size < (Wf.alloc (.cells #[.string va, .slice vp vl vc] 48)).heap.size; simp)); have HPG := hid (show mb < Wf.heap.size by have := (KB.out _ HGF.out).2.2.2; omega); have HML := hid (HMF.out.below hbb); clear hb3 hbb hgd hbx3 hgl hzl))
    all_goals (
      go_wp2_with fail
      have hx := cells_of_pair (set_pair (set_pair HR6.out (.string xa)).1 (.slice xp xl xc)).2
      refine bodyPost_ret (v := .agg #[.string xa, .slice xp xl xc]) (by simp [results, Tryz.results49, go_sem, hx.1, hx.2.1]) rfl ?_
      exact LPost.res HT6.out HW6.out HM6.out (by have := HA2.out; have := HA4.out; have := HA6.out; omega) (by omega) hlt)
  · obtain ⟨Wf, hWf⟩ : ∃ Wf, ((w2.setCell ⟨w1.heap.size, 0, none⟩ (.string va)).setCell ⟨w1.heap.size, 1, none⟩ (.slice vp vl vc)) = Wf := ⟨_, rfl⟩
    obtain ⟨vb, hvb⟩ : ∃ vb, w1.heap.size = vb := ⟨_, rfl⟩
    rw [hWf] at HGF HMF HBX ⊢
    rw [hvb] at HBX ⊢
    clear e11 e12 e13 e14 e21 e22 e23 e24 e31 e32 e33 e34 g1 g2 g3 g4 d1 d2 d3 d4 k1 k2 k3 k4 hWf hvb HX1A HX1D HM1A HM1D HDA HD HH HC
    go_wp2_with fail
    obtain ⟨v1, v2⟩ := HBX.out.cells
    obtain ⟨l1', l2'⟩ := (HBX.out.keepM (World.grownBy_alloc Wf (.cells #[.string va, .slice vp vl vc] 48) (some mb)) HO.out hlt).cells
    go_region_held3 (fun w' => w'.cell? ⟨vb, 0, none⟩ = some (.string va) ∧ w'.cell? ⟨vb, 1, none⟩ = some (.slice vp vl vc))
      (first | exact ⟨v1, v2⟩ | exact ⟨l1', l2'⟩ | exact ⟨m11, m12⟩ | exact ⟨m21, m22⟩ | exact ⟨m31, m32⟩ | exact ⟨m41, m42⟩ | exact ⟨m51, m52⟩ | exact ⟨m61, m62⟩)
      (first
        | (have _ := HM4; go_at_call 47; refine (HL2.out w5 a4 ya yp yl yc HM4.out (by have := HA2.out; have := HA4.out; omega) HY4.out).mono ?_; rintro e w6 ⟨⟨xa, xp, xl, xc⟩, a5, rfl, hg6, ha6, hm6, ht6⟩; have hg06 := HG5.out.trans hg6; obtain ⟨-, hr6, hw6, hz6⟩ := KB.out w6 hg06; obtain ⟨k1, k2, k3, k4⟩ := cells_of_pair hr6; have hgp := grown_pair w6 (w.heap.size + 1) (.string xa) (.slice xp xl xc); have hbx6 := HBX5.out.keepM hg6 HO.out hlt; obtain ⟨m51, m52⟩ := hbx6.cells; have hvk := block_grown hbx6.1 hgp (by have := hbx6.2.2.2; simp; omega); have m61 := Trn.cell (i := 0) hvk rfl; have m62 := Trn.cell (i := 1) hvk rfl; have HT6 := hid (ht6.aft (r := w.heap.size + 1) (w := w) (by have := HS5.out; simp; omega) (by have := HS5.out; simp; omega)); have HW6 := hid hw6; have HR6 := hid hr6; have HM6 := hid hm6; have HA6 := hid ha6; clear hg6 ha6 hm6 ht6 hg06 hr6 hw6 hgp hbx6 hvk)
        | (have _ := HML; go_at_call 47; refine (HL1.out _ a2 va vp vl vc _ HML.out (by have := HA2.out; omega) HBLK.out (by have := HPG.out; omega) HBXL.out.2.1).mono ?_; rintro e w5 ⟨⟨ya, yp, yl, yc⟩, a4, rfl, hg5, ha4, hm4, ht4⟩; have hg05 := HGL.out.trans hg5; obtain ⟨-, -, -, hz5⟩ := KB.out w5 hg05; have hbx5 := HBXL.out.keepM hg5 HO.out hlt; obtain ⟨m31, m32⟩ := hbx5.cells; have hbx5a := hbx5.keepM (World.grownBy_alloc w5 (.cells #[.string (bitS q), .slice none 0 0, .string ya, .slice yp yl yc] 48) (some mb)) HO.out hlt; obtain ⟨m41, m42⟩ := hbx5a.cells; have HBX5 := hid hbx5a; have HG5 := hid (hg05.trans (World.grownBy_alloc w5 (.cells #[.string (bitS q), .slice none 0 0, .string ya, .slice yp yl yc] 48) (some mb))); have HY4 := hid (ht4.aft (r := w.heap.size + 1) (w := w) (by have := HSL.out; omega) (by have := HSL.out; omega)); have HA4 := hid ha4; have HM4 := hid hm4; have HS5 := hid hz5; clear hg5 ha4 hm4 ht4 hg05 hz5 hbx5 hbx5a)
        | (go_at_call 46; refine (HB.out Wf.drew).mono ?_; rintro e w3 ⟨rfl, hb3⟩; have hgd := grown_any (((Below.refl Wf.heap.size Wf).drew).trans hb3) (some mb); have hbx3 := HBX.out.keepM hgd HO.out hlt; obtain ⟨m11, m12⟩ := hbx3.cells; have hbxl := hbx3.keepM (World.grownBy_alloc w3 (.cells #[.string va, .slice vp vl vc] 48) (some mb)) HO.out hlt; obtain ⟨m21, m22⟩ := hbxl.cells; have hgl := (HGF.out.trans hgd).trans (World.grownBy_alloc w3 (.cells #[.string va, .slice vp vl vc] 48) (some mb)); obtain ⟨-, -, -, hzl⟩ := KB.out _ hgl; have hz3 := (HGF.out.trans hgd).size; have hmx := hlt; have HBXL := hid hbxl; have HGL := hid hgl; have HSL := hid hzl; have HBLK := hid (heap_new w3 (.cells #[.string va, .slice vp vl vc] 48) w3.heap.size rfl); have HPG := hid (show mb < w3.heap.size by have := hgd.size; have := (KB.out _ HGF.out).2.2.2; omega); have HML := hid ((HMF.out.below (((Below.refl Wf.heap.size Wf).drew).trans hb3)).below ((Below.refl _ _).alloc (Nat.le_refl _) (.cells #[.string va, .slice vp vl vc] 48))); clear hb3 hgd hbx3 hbxl hgl hzl hz3 hmx)
        | (go_at_call 46; refine (HB.out (Wf.alloc (.cells #[.string va, .slice vp vl vc] 48)).drew).mono ?_; rintro e w3 ⟨rfl, hb3⟩; have hbb := (((Below.refl Wf.heap.size Wf).alloc (Nat.le_refl _) (.cells #[.string va, .slice vp vl vc] 48)).drew).trans (hb3.mono (by show Wf.heap.size ≤ (Wf.alloc (.cells #[.string va, .slice vp vl vc] 48)).heap.size; simp)); have hgd := grown_any hbb (some mb); have hbx3 := HBX.out.keepM hgd HO.out hlt; obtain ⟨m11, m12⟩ := hbx3.cells; have hgl := HGF.out.trans hgd; obtain ⟨-, -, -, hzl⟩ := KB.out _ hgl; have HBXL := hid hbx3; have HGL := hid hgl; have HSL := hid hzl; have HBLK := hid (block_below (show (Wf.alloc (.cells #[.string va, .slice vp vl vc] 48)).drew.heap[Wf.heap.size]? = some (.cells #[.string va, .slice vp vl vc] 48) from heap_new Wf (.cells #[.string va, .slice vp vl vc] 48) Wf.heap.size rfl) hb3 (by show Wf.heap.size < (Wf.alloc (.cells #[.string va, .slice vp vl vc] 48)).heap.size; simp)); have HPG := hid (show mb < Wf.heap.size by have := (KB.out _ HGF.out).2.2.2; omega); have HML := hid (HMF.out.below hbb); clear hb3 hbb hgd hbx3 hgl hzl))
    all_goals (
      go_wp2_with fail
      have hx := cells_of_pair (set_pair (set_pair HR6.out (.string xa)).1 (.slice xp xl xc)).2
      refine bodyPost_ret (v := .agg #[.string xa, .slice xp xl xc]) (by simp [results, Tryz.results49, go_sem, hx.1, hx.2.1]) rfl ?_
      exact LPost.res HT6.out HW6.out HM6.out (by have := HA2.out; have := HA4.out; have := HA6.out; omega) (by omega) hlt)
end Go.Proofs.YtagifgekhboinaaGreatDoor
