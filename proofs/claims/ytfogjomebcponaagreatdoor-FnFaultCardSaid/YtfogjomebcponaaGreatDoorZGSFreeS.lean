/- Merged: FreeS. -/
import Derived.Test.YtfogjomebcponaaGreatDoorZG37
namespace Go.Proofs.YtfogjomebcponaaGreatDoor
open Go.RowKit
set_option maxRecDepth 100000
set_option maxHeartbeats 8000000
theorem frees_step {cs : List Sg} {qs : List Tree} {j n : Nat} {c : Sg} {p : Tree} (hn : cs.length = n) (hc : cs[j]? = some c) (hp : qs[j]? = some p) (bd xs : List ByteArray) :
    Tree.frees bd xs (cs.drop j) (qs.drop j) = (if c.isK = true then p.free (bd ++ bnd (decide (j + 1 = n)) xs) else []) ++ Tree.frees bd xs (cs.drop (j + 1)) (qs.drop (j + 1)) := by
 have hj := (List.getElem?_eq_some_iff.1 hc).1
 have e : (cs.drop (j + 1) = []) ↔ j + 1 = n := by
  rw [List.drop_eq_nil_iff]; omega
 rw [dro hc, dro hp, Tree.frees]
 obtain ⟨r, hr⟩ : ∃ r, cs.drop (j + 1) = r := ⟨_, rfl⟩
 rw [hr] at e ⊢
 congr 1
 by_cases hl : j + 1 = n
 ·have h1 := e.2 hl
  subst h1
  rw [decide_eq_true hl]
  simp [bnd]
 ·have h1 : ¬ r = [] := fun x => hl (e.1 x)
  rw [decide_eq_false hl]
  simp [h1, bnd]
mutual
theorem tfree_le (bd : List ByteArray) : ∀ t : Tree, (t.free bd).length ≤ t.wt
 | .atom a => by rw [Tree.free, Tree.wt]; split <;> simp
 | .node [] => by rw [Tree.free]; simp
 | .node (h :: ps) => by rw [Tree.free, Tree.wt, Tree.wts]; have := tfrees_le bd (xsOf (shape h.text.toList) ps) (shape h.text.toList) ps; omega
theorem tfrees_le (bd xs : List ByteArray) : ∀ (cs : List Sg) (ps : List Tree), (Tree.frees bd xs cs ps).length ≤ Tree.wts ps
 | [], _ => by simp [Tree.frees]
 | _ :: _, [] => by simp [Tree.frees]
 | c :: cs, p :: ps => by
  rw [Tree.frees, Tree.wts, List.length_append]
  have h0 := tfrees_le bd xs cs ps
  have h1 := tfree_le bd p
  have h2 := tfree_le (bd ++ xs) p
  split
  ·split <;> omega
  ·simp; omega
end
theorem wts_at {qs : List Tree} {j : Nat} {p : Tree} (hp : qs[j]? = some p) : Tree.wts (qs.drop j) = p.wt + Tree.wts (qs.drop (j + 1)) := by
 rw [dro hp, Tree.wts]
def FreeAsk (w0 : World) (t : Tree) (h : Hd) : Prop := ∀ (bd L : List ByteArray) (bp lp : Option Addr) (bn bc ln lc base : Nat) (w : World), Kept w0 w → w0.heap.size ≤ w.heap.size → w0.heap.size ≤ base → base ≤ w.heap.size →
 SV w bp bn bc bd → (∀ g o, bp = some ⟨g, o, none⟩ → (Value.slice lp ln lc).ownBlock ≠ some g ∧ g < w.heap.size) → w.ownsRow base 9 1 (.slice lp ln lc) ln (L.map Value.string) →
 bn + 4 * t.wt ≤ 100000 → ln + t.wt ≤ 50000 →
 Calls Tryz.prog 67 #[.agg #[.string h.a, .slice h.p h.l h.c], .slice bp bn bc, .slice lp ln lc] w (FreePost base (.slice lp ln lc) (dedB L (t.free bd)) w)
theorem free_atom (w0 : World) (a : ByteArray) (hne : a.size ≠ 0) (hm : a.size ≤ 400000000) : FreeAsk w0 (.atom a) ⟨a, none, 0, 0⟩ := by
 intro bd L bp lp bn bc ln lc base w hk hw hb0 hbw hsv hap hown hbn hln
 have he := ise a hne
 have HN := hid (fun W => l2Name_any a hm W)
 have hll : L.length = ln := by have := hown.1; simpa using this
 have k1 : Kept w (w.alloc (.cells #[.string a, .slice none 0 0] 43)) := (Kept.refl w).alloc (Nat.le_refl _) _
 have HB := hid (fun W (hv : SV W bp bn bc bd) => lha a bd bp bn bc W hv (by omega))
 have HL := hid (fun W (hv : SV W lp ln lc L) => lha a L lp ln lc W hv (by omega))
 have HSV := hid (hsv.kept k1)
 have HSL := hid ((sv_own hown).kept k1)
 have HOWN := hid (hown.alloc (.cells #[.string a, .slice none 0 0] 43))
 have HLL := hid hll
 have hlb := hid (fun g e => hown.lt g e)
 have hfr : (Tree.atom a).free bd = if nameB a.toList = true ∧ hasB bd a.toList = false then [a] else [] := by rw [Tree.free]
 have same : ∀ (F : List ByteArray), dedB L F = L → FreePost base (.slice lp ln lc) (dedB L F) w (.returned (.slice lp ln lc)) (w.alloc (.cells #[.string a, .slice none 0 0] 43)) := by
  intro F hF
  rw [hF]
  refine ⟨lp, lc, by rw [HLL.out], by rw [HLL.out]; exact HOWN.out, ?_, Or.inl (by rw [HLL.out])⟩
  exact Below.grownBy ((Below.refl w.heap.size w).alloc (Nat.le_refl _) _) (Nat.le_refl _)
 have SAME := hid same
 obtain ⟨i0, hi0, hz0, hz1, hz2⟩ := info_parts Tryz.infoStr
 clear hsv hown hap hk hw hb0 k1 hll same
 cases e2 : nameB a.toList with
 | false =>
  rw [e2] at HN hfr
  have HF := hid (show (Tree.atom a).free bd = [] by rw [hfr, if_neg (fun h => by cases h.1)])
  clear hfr e2
  go_enter Tryz.func67, Tryz.ntmps67
  go_wp2_with (go_at_call 57; refine (HN.out _).mono ?_; rintro e w1 ⟨rfl, rfl⟩)
  go_ret
  exact SAME.out _ (by rw [HF.out]; rfl)
 | true =>
  rw [e2] at HN hfr
  cases e3 : hasB bd a.toList with
  | true =>
   rw [e3] at HB hfr
   have HF := hid (show (Tree.atom a).free bd = [] by rw [hfr, if_neg (fun h => by cases h.2)])
   clear hfr e2 e3
   go_enter Tryz.func67, Tryz.ntmps67
   go_wp2_with (first | (go_at_call 57; refine (HN.out _).mono ?_; rintro e w1 ⟨rfl, rfl⟩) | (go_at_call 61; refine (HB.out _ HSV.out).mono ?_; rintro e w2 ⟨rfl, rfl⟩))
   go_ret
   exact SAME.out _ (by rw [HF.out]; rfl)
  | false =>
   rw [e3] at HB hfr
   cases e4 : hasB L a.toList with
   | true =>
    rw [e4] at HL
    have HF := hid (show dedB L ((Tree.atom a).free bd) = L by rw [hfr, if_pos ⟨rfl, rfl⟩, dedB, if_pos e4, dedB])
    clear hfr e2 e3 e4
    go_enter Tryz.func67, Tryz.ntmps67
    go_wp2_with (first | (go_at_call 57; refine (HN.out _).mono ?_; rintro e w1 ⟨rfl, rfl⟩) | (go_at_call 61; first | (refine (HB.out _ HSV.out).mono ?_; clear HB; rintro e w2 ⟨rfl, rfl⟩) | (refine (HL.out _ HSL.out).mono ?_; rintro e w2 ⟨rfl, rfl⟩)))
    go_ret
    exact SAME.out _ HF.out
   | false =>
    rw [e4] at HL
    have HF := hid (show dedB L ((Tree.atom a).free bd) = L ++ [a] by rw [hfr, if_pos ⟨rfl, rfl⟩, dedB, if_neg (by rw [e4]; simp), dedB])
    clear hfr e2 e3 e4
    go_enter Tryz.func67, Tryz.ntmps67
    go_wp2_with (first | (at_builtin; refine wpl _ rfl _ _ 22 rfl base 9 i0 (.string ByteArray.empty) 1 16 Tryz.underlying22 hi0 hz0 hz1 hz2 rfl (by decide) (.slice lp ln lc) ln _ rfl (HOWN.out.alloc _) ⟨w.heap.size + 1, 0, none⟩ 1 1 [.string a] rfl rfl (cen _ _ _ _ (by simp)) (by intro u hu; simp at hu; subst hu; rfl) (by decide) (by unfold maxLen; omega) (by omega) (by simp; omega) ?_; intro v' w2 hown2 hg2 hw2 hv2; obtain ⟨g2, kc2, rfl⟩ := hv2; have HG := hid hg2; have HO := hid hown2; have HW := hid hw2; clear hg2 hown2 hw2) | (go_at_call 57; refine (HN.out _).mono ?_; rintro e w1 ⟨rfl, rfl⟩) | (go_at_call 61; first | (refine (HB.out _ HSV.out).mono ?_; clear HB; rintro e w2 ⟨rfl, rfl⟩) | (refine (HL.out _ HSL.out).mono ?_; rintro e w2 ⟨rfl, rfl⟩)))
    go_ret
    rw [HF.out]
    refine ⟨some ⟨g2, 0, none⟩, kc2, ?_, ?_, ?_, ?_⟩
    ·rw [List.length_append, HLL.out]; rfl
    ·rw [List.length_append, HLL.out, List.map_append]; exact HO.out
    ·refine ⟨HG.out.os, HG.out.tape, HG.out.output, by have := HG.out.size; simp at this; omega, fun k hk hkr => ?_⟩
     rw [HG.out.block k (by simp; omega) hkr]
     exact ((Kept.refl w).alloc (Nat.le_refl _) _ |>.alloc (by simp) _) k hk
    ·rcases HW.out with e | e
     ·left; rw [List.length_append, HLL.out]; exact e
     ·right; refine ⟨_, by rw [List.length_append, HLL.out]; exact e, by simp; omega⟩
theorem free_go {w0 : World} {S : Nat → Prop} {q : Tree} {qs : List Tree} {b cap n N : Nat} {A : Nat → Hd} (hn : qs.length = n) (hN : N = n + 1)
    (hA : ∀ i, i < n + 1 → w0.cell? ⟨b, i * 2, none⟩ = some (.string (A i).a)) (hB : ∀ i, i < n + 1 → w0.cell? ⟨b, i * 2 + 1, none⟩ = some (.slice (A i).p (A i).l (A i).c))
    (hps : ∀ i p, (q :: qs)[i]? = some p → TIn w0 S p (A i)) (hwf : Tree.srt (.node (q :: qs)) ≠ none)
    (ih : ∀ i p, (q :: qs)[i]? = some p → p.srt ≠ none → FreeAsk w0 p (A i)) : FreeAsk w0 (.node (q :: qs)) ⟨ByteArray.empty, some ⟨b, 0, none⟩, N, cap⟩ := by
 intro bd L bp lp bn bc ln lc base w hk hw hb0 hbw hsv hap hown hbn hln
 obtain ⟨h0, hsl, hft⟩ := wf_node hwf
 have h4 := sha q.text.toList
 obtain ⟨ht0, htk⟩ := part_texts hn hA hps
 have hbl : bd.length = bn := hsv.1
 have hll : L.length = ln := by have := hown.1; simpa using this
 have HFT := hid (fun i c p hc hp hk => fit1_wf (fits_get (shape q.text.toList) qs i c p hft hc hp) hk)
 have HI := hid (fun i c W h0 hc => l2Inner_any q b N cap i ByteArray.empty c W h0 (by omega) hc)
 have HBN := hid (fun i W hi h0 ht => l2Binds_any q qs b N n i cap ByteArray.empty W hN hn hi hsl h0 ht)
 have hxl : (xsOf (shape q.text.toList) qs).length ≤ 4 := by have := xsOf_length (shape q.text.toList) qs; omega
 rw [Tree.wt, Tree.wts] at hbn hln
 have hq1 := wt_pos q
 have HR := hid (show (Tree.node (q :: qs)).free bd = Tree.frees bd (xsOf (shape q.text.toList) qs) (shape q.text.toList) qs by rw [Tree.free])
 obtain ⟨cs, hcs⟩ : ∃ cs, shape q.text.toList = cs := ⟨_, rfl⟩
 rw [hcs] at HFT HI HBN HR hxl hsl h4
 obtain ⟨xs, hxs⟩ : ∃ xs, xsOf cs qs = xs := ⟨_, rfl⟩
 rw [hxs] at HBN HR hxl
 obtain ⟨R, hR⟩ : ∃ R, dedB L ((Tree.node (q :: qs)).free bd) = R := ⟨_, rfl⟩
 rw [hR]
 have HRR := hid (show dedB L (Tree.frees bd xs cs qs) = R by rw [← HR.out]; exact hR)
 have hn4 : n ≤ 4 := by omega
 have hN1 : n < N := by omega
 have hN2 : N ≤ n + 1 := by omega
 have hN5 : N ≤ 5 := by omega
 have hqw : ln + Tree.wts qs ≤ 50000 := by omega
 have hbq : bn + 4 + 4 * Tree.wts qs ≤ 100000 := by omega
 obtain ⟨W0, hW0⟩ : ∃ W0, W0 = w.alloc (.cells #[.string ByteArray.empty, .slice (some ⟨b, 0, none⟩) N cap] 43) := ⟨_, rfl⟩
 have hW0s : W0.heap.size = w.heap.size + 1 := by rw [hW0]; simp
 have hbx0 := hea w (.cells #[.string ByteArray.empty, .slice (some ⟨b, 0, none⟩) N cap] 43) w.heap.size rfl
 rw [← hW0] at hbx0
 have hkW : Kept w0 W0 := by rw [hW0]; exact hk.alloc hw _
 have hsv0 : SV W0 bp bn bc bd := by rw [hW0]; exact hsv.kept ((Kept.refl w).alloc (Nat.le_refl _) _)
 have hown0 : W0.ownsRow base 9 1 (.slice lp ln lc) ln (L.map Value.string) := by rw [hW0]; exact hown.alloc _
 have hbelw : Below w.heap.size w W0 := by rw [hW0]; exact (Below.refl _ _).alloc (Nat.le_refl _) _
 have HBW := hid hbelw
 have HBX := hid hbx0
 have HSL := hid (hsl.trans hn)
 have HN := hid hn
 have HT0 := hid ht0
 have HTK := hid htk
 have HA := hid hA
 have HB := hid hB
 have HIH := hid ih
 have HK := hid hkW
 have HSV := hid hsv0
 have HAP := hid hap
 have HOWN0 := hid hown0
 have HLT := hid (fun g e => hown.lt g e)
 have HW0 := hid hW0
 have HLL := hid hll
 have HBL := hid hbl
 have hWs2 : w.heap.size < W0.heap.size := by omega
 have HWS := hid hW0s
 clear hn hN hA hB hps hwf ih hk h0 hsl hft h4 ht0 htk hcs hxs hR hsv hown hap hkW hsv0 hown0 hW0 hbx0 hll hbl hbn hln hq1 HR hbelw hW0s
 go_enter Tryz.func67, Tryz.ntmps67
 go_wp2_with fail
 rw [← HW0.out]
 go_loopw [2, 7] (fun v u wr => ∃ (i m c : Nat) (q : Option Addr) (L1 : List ByteArray), i ≤ n ∧ u = .int .i64 ((i : Int) + 1) ∧ v = .slice q m c ∧ wr.ownsRow base 9 1 (.slice q m c) m (L1.map Value.string) ∧ W0.grownBy wr (Value.slice lp ln lc).ownBlock ∧
     ((Value.slice q m c).ownBlock = (Value.slice lp ln lc).ownBlock ∨ ∃ g, (Value.slice q m c).ownBlock = some g ∧ W0.heap.size ≤ g) ∧ m + Tree.wts (qs.drop i) ≤ 50000 ∧ Hid (L1.length = m ∧ dedB L1 (Tree.frees bd xs (cs.drop i) (qs.drop i)) = R)) (fun _ u _ => N - (intOf u).toNat)
 case atStart =>
  exact ⟨0, ln, lc, lp, L, Nat.zero_le _, rfl, rfl, HOWN0.out, World.grownBy.refl _ _, Or.inl rfl, by simpa using hqw, hid ⟨HLL.out, by simpa using HRR.out⟩⟩
 case round =>
  obtain ⟨i, m, c, q1, L1, hi, rfl, rfl, hown, hgr, hob, hmw, hL⟩ := hrel
  have hz := hgr.size
  have hbxr : wr.heap[w.heap.size]? = some (.cells #[.string ByteArray.empty, .slice (some ⟨b, 0, none⟩) N cap] 43 (0, 0)) := blc HBX.out hgr (fun e => by have := (HLT.out _ e).2; omega)
  have kc2 := cel hbxr
  have kw : Kept w0 wr := fun k hk => (hgr.block k (by omega) (fun e => by have := (HLT.out k e.symm).1; omega)).trans (HK.out k hk)
  have hwr : w0.heap.size ≤ wr.heap.size := by omega
  have hsvr := HSV.out.grown hgr (fun g o e => (HAP.out g o e).1)
  have hapr : ∀ g o, bp = some ⟨g, o, none⟩ → (Value.slice q1 m c).ownBlock ≠ some g ∧ g < wr.heap.size := by
   intro g o e
   have h1 := HAP.out g o e
   refine ⟨?_, by omega⟩
   rcases hob with e2 | ⟨g2, e2, h2⟩
   ·rw [e2]; exact h1.1
   ·rw [e2]; intro e3; have := Option.some.inj e3; omega
  have HOB := hid hob
  have HGR := hid hgr
  have HOWN := hid hown
  have HSVR := hid hsvr
  have HAPR := hid hapr
  have KW := hid kw
  clear hown hgr hob hsvr hapr hbxr
  by_cases hlt : i < n
  ·obtain ⟨p, hp⟩ : ∃ p, qs[i]? = some p := ⟨_, List.getElem?_eq_getElem (by rw [HN.out]; exact hlt)⟩
   obtain ⟨d, hcc⟩ : ∃ d, cs[i]? = some d := ⟨_, List.getElem?_eq_getElem (by rw [HSL.out]; exact hlt)⟩
   have d2 : (i : Int) + 1 < (N : Int) := by omega
   have d2' : i + 1 < N := by omega
   have hst := frees_step HSL.out hcc hp bd xs
   have hwd := wts_at hp
   have CI := hid (fun W (hk : Kept wr W) => HI.out i d W (hk.cell (kw.cell HT0.out)) hcc)
   have CB := hid (fun W (hk : Kept wr W) => HBN.out i W hlt (hk.cell (kw.cell HT0.out)) (fun k p hp => hk.cell (kw.cell (HTK.out k p hp))))
   have CA := hid (fun W (hk : Kept wr W) => hk.cell (kw.cell (HA.out (i + 1) (by omega))))
   have CB2 := hid (fun W (hk : Kept wr W) => hk.cell (kw.cell (HB.out (i + 1) (by omega))))
   have kc3 := hid (fun W (hk : Kept wr W) => (show W.cell? ⟨w.heap.size, 0, none⟩ = some (.string ByteArray.empty) ∧ W.cell? ⟨w.heap.size, 1, none⟩ = some (.slice (some ⟨b, 0, none⟩) N cap) from ⟨hk.cell kc2.1, hk.cell kc2.2.1⟩))
   cases hK : d.isK with
   | false =>
    rw [hK] at CI
    have HL2 := hid (show L1.length = m ∧ dedB L1 (Tree.frees bd xs (cs.drop (i + 1)) (qs.drop (i + 1))) = R by
     have := hL.out; rw [hst, hK] at this; simpa using this)
    have hmw2 : m + Tree.wts (qs.drop (i + 1)) ≤ 50000 := by omega
    clear hst hL hp hcc kw hK hwd hmw
    go_wp2_with (go_at_call 68; refine (CI.out _ (Kept.refl _)).mono ?_; rintro e w1 ⟨rfl, hb1⟩)
    go_roundw
    case rel =>
     refine ⟨i + 1, m, c, q1, L1, by omega, by go_num, rfl, ows HOWN.out hb1, ?_, HOB.out, hmw2, HL2⟩
     exact grow_chain HGR.out hb1 (World.grownBy.refl _ _) (Or.inl rfl)
    case measure => simp [intOf]; omega
   | true =>
    rw [hK] at CI
    have hwp := HFT.out i d p hcc hp hK
    have hpw : p.wt ≤ Tree.wts qs := wtp qs i p hp
    obtain ⟨B, hBB⟩ : ∃ B, bnd (decide (i + 1 = n)) xs = B := ⟨_, rfl⟩
    have hBl : B.length ≤ 4 := by rw [← hBB]; unfold bnd; split; exact hxl; simp
    rw [hBB] at CB hst
    have hL2 : dedB L1 (Tree.frees bd xs (cs.drop i) (qs.drop i)) = dedB (dedB L1 (p.free (bd ++ B))) (Tree.frees bd xs (cs.drop (i + 1)) (qs.drop (i + 1))) := by
     rw [hst, if_pos hK, dedB_append]
    have hdl := dedB_le (p.free (bd ++ B)) L1
    have hfl := tfree_le (bd ++ B) p
    obtain ⟨L2, hLL2⟩ : ∃ L2, dedB L1 (p.free (bd ++ B)) = L2 := ⟨_, rfl⟩
    have hL2l : L2.length + Tree.wts (qs.drop (i + 1)) ≤ 50000 := by
     rw [← hLL2]; have := hL.out.1; omega
    have HL2 := hid (show dedB L2 (Tree.frees bd xs (cs.drop (i + 1)) (qs.drop (i + 1))) = R by rw [← hLL2, ← hL2]; exact hL.out.2)
    have hBn : (bd ++ B).length = bn + B.length := by rw [List.length_append, HBL.out]
    have HC := hid (fun W (hkk : Kept wr W) (hs : wr.heap.size ≤ W.heap.size) (bp2 : Option Addr) bc2 (hv : SV W bp2 (bn + B.length) bc2 (bd ++ B)) (ha : ∀ g o, bp2 = some ⟨g, o, none⟩ → (Value.slice q1 m c).ownBlock ≠ some g ∧ g < W.heap.size) (ho : W.ownsRow base 9 1 (.slice q1 m c) m (L1.map Value.string)) =>
     (show Calls Tryz.prog 67 #[.agg #[.string (A (i + 1)).a, .slice (A (i + 1)).p (A (i + 1)).l (A (i + 1)).c], .slice bp2 (bn + B.length) bc2, .slice q1 m c] W (FreePost base (.slice q1 m c) L2 W) from by
       rw [← hLL2]
       exact HIH.out (i + 1) p (by simpa using hp) hwp (bd ++ B) L1 bp2 q1 (bn + B.length) bc2 m c base W (kw.trans hkk hwr) (by omega) hb0 (by omega) hv ha ho (by omega) (by omega)))
    have HWT := hid (fun (p1 p2 : Option Addr) c1 c2 W hv1 hv2 => l2With_any bd B p1 p2 bn B.length c1 c2 W hv1 hv2 (by omega) (by omega))
    rw [show (OwnS (bd ++ B)) = (fun (w : World) (e : Ending) (w' : World) => OwnS (bd ++ B) w e w') from rfl] at HWT
    clear hst hL hp hcc kw hK hwp hwd hmw hdl hfl hLL2 hL2 hBB hpw
    have HBN2 := hid hBn
    clear hBn
    have ca := CA.out wr (Kept.refl _)
    have cb := CB2.out wr (Kept.refl _)
    go_wp2_with (go_at_call 68; refine (CI.out _ (Kept.refl _)).mono ?_; rintro e w1 ⟨rfl, hb1⟩; have k1 := kc3.out _ (Kept.of_below hb1 (Nat.le_refl _)); have ca1 := CA.out _ (Kept.of_below hb1 (Nat.le_refl _)); have cb1 := CB2.out _ (Kept.of_below hb1 (Nat.le_refl _)))
    have s1 := hb1.size
    have hbd1 : Below wr.heap.size wr w1.drew := hb1.trans ((Below.refl wr.heap.size w1).drew)
    have K1 := hid (Kept.of_below hbd1 (Nat.le_refl _))
    have HB1 := hid hbd1
    have S1 := hid (show wr.heap.size ≤ w1.drew.heap.size from s1)
    clear hb1 hbd1
    go_region_with (first
     | (go_at_call 67; have _ := hb3; refine (HC.out _ K3.out S3.out _ _ hsv3 AP3.out OW3.out).mono ?_; rintro e w4 hp4; obtain ⟨q4, c4, rfl, ho4, hg4, hob4⟩ := hp4; have HO4 := hid ho4; have HG4 := hid hg4; have HOB4 := hid hob4; clear ho4 hg4 hob4)
     | (go_at_call 72; have _ := hb2; refine (HWT.out _ _ _ _ _ (HSVR.out.kept K2.out) hsv2).mono ?_; rintro e w3 hp3; obtain ⟨q3, c3, he3, hsv3, hlt3, hb3⟩ := hp3.full; rw [HBN2.out] at he3 hsv3; subst he3; have K3 := hid (K2.out.below hb3 S2.out); have S3 := hid (Nat.le_trans S2.out hb3.size); have k3 := kc3.out _ K3.out; have ca3 := CA.out _ K3.out; have cb3 := CB2.out _ K3.out; have HB3 := hid (HB2.out.trans (hb3.mono S2.out)); have OW3 := hid (ows HOWN.out HB3.out); have AP3 := hid (fun g o e => And.intro (fun x => Nat.lt_irrefl _ (Nat.lt_of_lt_of_le (HOWN.out.lt g x).2 (Nat.le_trans S2.out (hlt3 g o e).1))) (hlt3 g o e).2); clear hlt3)
     | (go_at_call 69; refine (CB.out _ K1.out).mono ?_; rintro e w2 hp2; obtain ⟨q2, c2, rfl, hsv2, _, hb2⟩ := hp2.full; have K2 := hid (K1.out.below hb2 S1.out); have S2 := hid (Nat.le_trans S1.out hb2.size); have HB2 := hid (HB1.out.trans (hb2.mono S1.out)); have k2 := kc3.out _ K2.out; have ca2 := CA.out _ K2.out; have cb2 := CB2.out _ K2.out))
    all_goals
     go_wp2_with fail
     go_roundw
     case rel =>
      refine ⟨i + 1, L2.length, c4, q4, L2, by omega, by go_num, rfl, HO4.out, grow_chain HGR.out HB3.out HG4.out HOB.out, ?_, hL2l, hid ⟨rfl, HL2.out⟩⟩
      have s3 := S3.out
      rcases HOB4.out with e | ⟨g, e, hg⟩
      ·rcases HOB.out with e2 | ⟨g, e2, hg⟩
       ·exact Or.inl (e.trans e2)
       ·exact Or.inr ⟨g, e.trans e2, hg⟩
      ·exact Or.inr ⟨g, e, by omega⟩
     case measure => simp [intOf]; omega
  ·have he : R = L1 := by
     have := hL.out.2
     rw [List.drop_of_length_le (l := cs) (by rw [HSL.out]; omega)] at this
     simpa [Tree.frees, dedB] using this.symm
   have HE := hid he
   have HLL1 := hid hL.out.1
   clear he hL kw
   go_wp2_with fail
   go_ret
   refine ⟨q1, c, ?_, ?_, ?_, ?_⟩
   ·rw [HE.out, HLL1.out]; rfl
   ·rw [HE.out, HLL1.out]; exact HOWN.out
   ·exact grow_chain (Below.grownBy HBW.out (Nat.le_refl _)) (Below.refl _ _) HGR.out (Or.inl rfl)
   ·rw [HE.out, HLL1.out]
    rcases HOB.out with e | ⟨g, e, hg⟩
    ·exact Or.inl e
    ·exact Or.inr ⟨g, e, by omega⟩
theorem l2Free_any {w0 : World} {S : Nat → Prop} {t : Tree} {h : Hd} (ht : TIn w0 S t h) : t.wt ≤ 12000 → t.ok → t.srt ≠ none → FreeAsk w0 t h := by
 induction ht with
 | atom a hne hm => intro _ hok _; exact free_atom w0 a hne (by have := hok.1; omega)
 | node ps b cap A hp hl hc hS hA hB hps ih =>
  intro hwt hok hwf
  obtain ⟨q, qs, rfl⟩ : ∃ q qs, ps = q :: qs := by cases ps with | nil => simp at hp | cons q qs => exact ⟨q, qs, rfl⟩
  rw [Tree.wt] at hwt
  rw [Tree.ok] at hok
  simp only [List.length_cons] at hl hA hB
  exact free_go (S := S) (n := qs.length) rfl rfl hA hB hps hwf (fun i p hp hw => ih i p hp (by have := wtp (q :: qs) i p hp; omega) (okp _ hok i p hp) hw)
end Go.Proofs.YtfogjomebcponaaGreatDoor
