/- Merged: SxF, SxG. -/
import Derived.Deep.RegionHeld3
import Derived.Deep.RegionWith
import Derived.Test.YtgogoekfidbpdaaDoorSQSSxR
import Derived.Test.YtgogoekfidbpdaaDoorSQ9
import Derived.Test.YtgogoekfidbpdaaDoorSQ12
namespace Go.Proofs.YtgogoekfidbpdaaDoor
open Go.RowKit

/-- What l7Free is asked. -/
def Free7 (w0 : World) (wt : Nat) (fr : List ByteArray → List ByteArray) (h : Hd) : Prop := ∀ (bd L : List ByteArray) (bp lp : Option Addr) (bn bc ln lc base : Nat) (w : World), Kept w0 w → w0.heap.size ≤ w.heap.size → w0.heap.size ≤ base → base ≤ w.heap.size →
  SV w bp bn bc bd → (∀ g o, bp = some ⟨g, o, none⟩ → (Value.slice lp ln lc).ownBlock ≠ some g ∧ g < w.heap.size) → w.ownsRow base 9 1 (.slice lp ln lc) ln (L.map Value.string) →
  bn + 4 * wt ≤ 100000 → ln + wt ≤ 50000 →
  Calls Tryd.prog 16 #[.agg #[.string h.a, .slice h.p h.l h.c], .slice bp bn bc, .slice lp ln lc] w (FreePost base (.slice lp ln lc) (dedB L (fr bd)) w)

set_option maxRecDepth 100000 in
set_option maxHeartbeats 2000000 in
theorem free7_atom (w0 : World) (a : ByteArray) (hne : a.size ≠ 0) (hm : a.size ≤ 400000000) : Free7 w0 1 (fun bd => atF bd a) ⟨a, none, 0, 0⟩ := by
  intro bd L bp lp bn bc ln lc base w hk hw hb0 hbw hsv hap hown hbn hln
  have he := isEmpty_not a hne
  have HN := hid (fun W => l2Name_any a hm W)
  have hll : L.length = ln := by have := hown.1; simpa using this
  have k1 : Kept w (w.alloc (.cells #[.string a, .slice none 0 0] 44)) := (Kept.refl w).alloc (Nat.le_refl _) _
  have HB := hid (fun W (hv : SV W bp bn bc bd) => l2Has_any a bd bp bn bc W hv (by omega))
  have HL := hid (fun W (hv : SV W lp ln lc L) => l2Has_any a L lp ln lc W hv (by omega))
  have HSV := hid (hsv.kept k1)
  have HSL := hid ((sv_own hown).kept k1)
  have HOWN := hid (hown.alloc (.cells #[.string a, .slice none 0 0] 44))
  have HLL := hid hll
  have hlb := hid (fun g e => hown.lt g e)
  show Calls _ _ _ _ (FreePost base (.slice lp ln lc) (dedB L (atF bd a)) w)
  have hfr : atF bd a = if nameB a.toList = true ∧ hasB bd a.toList = false then [a] else [] := rfl
  have same : ∀ (F : List ByteArray), dedB L F = L → FreePost base (.slice lp ln lc) (dedB L F) w (.returned (.slice lp ln lc)) (w.alloc (.cells #[.string a, .slice none 0 0] 44)) := by
    intro F hF
    rw [hF]
    refine ⟨lp, lc, by rw [HLL.out], by rw [HLL.out]; exact HOWN.out, ?_, Or.inl (by rw [HLL.out])⟩
    exact Below.grownBy ((Below.refl w.heap.size w).alloc (Nat.le_refl _) _) (Nat.le_refl _)
  have SAME := hid same
  obtain ⟨i0, hi0, hz0, hz1, hz2⟩ := info_parts Tryd.infoStr
  clear hsv hown hap hk hw hb0 k1 hll same
  cases e2 : nameB a.toList with
  | false =>
    rw [e2] at HN hfr
    have HF := hid (show atF bd a = [] by rw [hfr, if_neg (fun h => by cases h.1)])
    clear hfr e2
    go_enter Tryd.func16, Tryd.ntmps16
    go_wp2_with (go_at_call 37; refine (HN.out _).mono ?_; rintro e w1 ⟨rfl, rfl⟩)
    go_ret
    exact SAME.out _ (by rw [HF.out]; rfl)
  | true =>
    rw [e2] at HN hfr
    cases e3 : hasB bd a.toList with
    | true =>
      rw [e3] at HB hfr
      have HF := hid (show atF bd a = [] by rw [hfr, if_neg (fun h => by cases h.2)])
      clear hfr e2 e3
      go_enter Tryd.func16, Tryd.ntmps16
      go_wp2_with (first | (go_at_call 37; refine (HN.out _).mono ?_; rintro e w1 ⟨rfl, rfl⟩) | (go_at_call 38; refine (HB.out _ HSV.out).mono ?_; rintro e w2 ⟨rfl, rfl⟩))
      go_ret
      exact SAME.out _ (by rw [HF.out]; rfl)
    | false =>
      rw [e3] at HB hfr
      cases e4 : hasB L a.toList with
      | true =>
        rw [e4] at HL
        have HF := hid (show dedB L (atF bd a) = L by rw [hfr, if_pos ⟨rfl, rfl⟩, dedB, if_pos e4, dedB])
        clear hfr e2 e3 e4
        go_enter Tryd.func16, Tryd.ntmps16
        go_wp2_with (first | (go_at_call 37; refine (HN.out _).mono ?_; rintro e w1 ⟨rfl, rfl⟩) | (go_at_call 38; first | (refine (HB.out _ HSV.out).mono ?_; clear HB; rintro e w2 ⟨rfl, rfl⟩) | (refine (HL.out _ HSL.out).mono ?_; rintro e w2 ⟨rfl, rfl⟩)))
        go_ret
        exact SAME.out _ HF.out
      | false =>
        rw [e4] at HL
        have HF := hid (show dedB L (atF bd a) = L ++ [a] by rw [hfr, if_pos ⟨rfl, rfl⟩, dedB, if_neg (by rw [e4]; simp), dedB])
        clear hfr e2 e3 e4
        go_enter Tryd.func16, Tryd.ntmps16
        go_wp2_with (first | (at_builtin; refine wpList_append_at _ rfl _ _ 24 rfl base 9 i0 (.string ByteArray.empty) 1 16 Tryd.underlying24 hi0 hz0 hz1 hz2 rfl (by decide) (.slice lp ln lc) ln _ rfl (HOWN.out.alloc _) ⟨w.heap.size + 1, 0, none⟩ 1 1 [.string a] rfl rfl (cells_new1 _ _ _ _ (by simp)) (by intro u hu; simp at hu; subst hu; rfl) (by decide) (by unfold maxLen; omega) (by omega) (by simp; omega) ?_; intro v' w2 hown2 hg2 hw2 hv2; obtain ⟨g2, kc2, rfl⟩ := hv2; have HG := hid hg2; have HO := hid hown2; have HW := hid hw2; clear hg2 hown2 hw2) | (go_at_call 37; refine (HN.out _).mono ?_; rintro e w1 ⟨rfl, rfl⟩) | (go_at_call 38; first | (refine (HB.out _ HSV.out).mono ?_; clear HB; rintro e w2 ⟨rfl, rfl⟩) | (refine (HL.out _ HSL.out).mono ?_; rintro e w2 ⟨rfl, rfl⟩)))
        go_ret
        rw [HF.out]
        refine ⟨some ⟨g2, 0, none⟩, kc2, ?_, ?_, ?_, ?_⟩
        · rw [List.length_append, HLL.out]; rfl
        · rw [List.length_append, HLL.out, List.map_append]; exact HO.out
        · refine ⟨HG.out.os, HG.out.tape, HG.out.output, by have := HG.out.size; simp at this; omega, fun k hk hkr => ?_⟩
          rw [HG.out.block k (by simp; omega) hkr]
          exact ((Kept.refl w).alloc (Nat.le_refl _) _ |>.alloc (by simp) _) k hk
        · rcases HW.out with e | e
          · left; rw [List.length_append, HLL.out]; exact e
          · right; refine ⟨_, by rw [List.length_append, HLL.out]; exact e, by simp; omega⟩


def wsum (frs : List (Nat × (List ByteArray → List ByteArray))) : Nat := (frs.map (·.1)).sum
def frAll (frs : List (Nat × (List ByteArray → List ByteArray))) (bd : List ByteArray) : List ByteArray := frs.flatMap (·.2 bd)

set_option maxRecDepth 100000 in
set_option maxHeartbeats 8000000 in
theorem free7_go {w0 : World} {hd : ByteArray} {b cap n N : Nat} {A : Nat → Hd} {frs : List (Nat × (List ByteArray → List ByteArray))} (hn : frs.length = n) (hN : N = n + 1) (hn3 : n ≤ 3)
    (e1 : (hd.toList == [108, 97, 109]) = false) (e2 : (hd.toList == [102, 97, 105, 108]) = false) (hh : (A 0).a = hd)
    (hA : ∀ i, i < n + 1 → w0.cell? ⟨b, i * 2, none⟩ = some (.string (A i).a)) (hB : ∀ i, i < n + 1 → w0.cell? ⟨b, i * 2 + 1, none⟩ = some (.slice (A i).p (A i).l (A i).c))
    (ih : ∀ (i : Nat) (x : Nat × (List ByteArray → List ByteArray)), frs[i]? = some x → Free7 w0 x.1 x.2 (A (i + 1)) ∧ ∀ bd, (x.2 bd).length ≤ x.1) : Free7 w0 (1 + wsum frs) (frAll frs) ⟨ByteArray.empty, some ⟨b, 0, none⟩, N, cap⟩ := by
  intro bd L bp lp bn bc ln lc base w hk hw hb0 hbw hsv hap hown hbn hln
  have hbl : bd.length = bn := hsv.1
  have hll : L.length = ln := by have := hown.1; simpa using this
  obtain ⟨R, hR⟩ : ∃ R, dedB L (frAll frs bd) = R := ⟨_, rfl⟩
  rw [hR]
  have HRR := hid hR
  have hN1 : n < N := by omega
  have hN2 : N ≤ n + 1 := by omega
  have hN5 : N ≤ 4 := by omega
  have hqw : ln + wsum frs ≤ 50000 := by omega
  have hbq : bn + 4 * wsum frs ≤ 100000 := by omega
  obtain ⟨W0, hW0⟩ : ∃ W0, W0 = w.alloc (.cells #[.string ByteArray.empty, .slice (some ⟨b, 0, none⟩) N cap] 44) := ⟨_, rfl⟩
  have hW0s : W0.heap.size = w.heap.size + 1 := by rw [hW0]; simp
  have hbx0 := heap_new w (.cells #[.string ByteArray.empty, .slice (some ⟨b, 0, none⟩) N cap] 44) w.heap.size rfl
  rw [← hW0] at hbx0
  have hkW : Kept w0 W0 := by rw [hW0]; exact hk.alloc hw _
  have hsv0 : SV W0 bp bn bc bd := by rw [hW0]; exact hsv.kept ((Kept.refl w).alloc (Nat.le_refl _) _)
  have hown0 : W0.ownsRow base 9 1 (.slice lp ln lc) ln (L.map Value.string) := by rw [hW0]; exact hown.alloc _
  have hbelw : Below w.heap.size w W0 := by rw [hW0]; exact (Below.refl _ _).alloc (Nat.le_refl _) _
  have c0 : W0.cell? ⟨b, 0, none⟩ = some (.string hd) := by have := hkW.cell (hA 0 (by omega)); rw [hh] at this; simpa using this
  have k0 := cells_of_pair hbx0
  have HBW := hid hbelw
  have HBX := hid hbx0
  have HN := hid hn
  have HA := hid hA
  have HB := hid hB
  have HIH := hid ih
  have HK := hid hkW
  have HSV := hid hsv0
  have HAP := hid hap
  have HOWN0 := hid hown0
  have HLT := hid (fun g e => hown.lt g e)
  have HW0 := hid hW0
  have HLL := hid hll
  have HBL := hid hbl
  have hWs2 : w.heap.size < W0.heap.size := by omega
  have HWS := hid hW0s
  clear hn hN hA hB ih hk hR hsv hown hap hkW hsv0 hown0 hbx0 hll hbl hbn hln hbelw hW0s hh
  subst hW0
  clear HW0
  go_enter Tryd.func16, Tryd.ntmps16
  go_wp2_with fail
  go_loopw [2, 7] (fun v u wr => ∃ (i m c : Nat) (q : Option Addr) (L1 : List ByteArray), i ≤ n ∧ u = .int .i64 ((i : Int) + 1) ∧ v = .slice q m c ∧ wr.ownsRow base 9 1 (.slice q m c) m (L1.map Value.string) ∧ (w.alloc (.cells #[.string ByteArray.empty, .slice (some ⟨b, 0, none⟩) N cap] 44)).grownBy wr (Value.slice lp ln lc).ownBlock ∧
      ((Value.slice q m c).ownBlock = (Value.slice lp ln lc).ownBlock ∨ ∃ g, (Value.slice q m c).ownBlock = some g ∧ (w.alloc (.cells #[.string ByteArray.empty, .slice (some ⟨b, 0, none⟩) N cap] 44)).heap.size ≤ g) ∧ m + wsum (frs.drop i) ≤ 50000 ∧ Hid (L1.length = m ∧ dedB L1 (frAll (frs.drop i) bd) = R)) (fun _ u _ => N - (intOf u).toNat)
  case atStart =>
    exact ⟨0, ln, lc, lp, L, Nat.zero_le _, rfl, rfl, HOWN0.out, World.grownBy.refl _ _, Or.inl rfl, by simpa using hqw, hid ⟨HLL.out, by simpa using HRR.out⟩⟩
  case round =>
    obtain ⟨i, m, c, q1, L1, hi, rfl, rfl, hown, hgr, hob, hmw, hL⟩ := hrel
    have hz := hgr.size
    simp at hz
    have hbxr : wr.heap[w.heap.size]? = some (.cells #[.string ByteArray.empty, .slice (some ⟨b, 0, none⟩) N cap] 44 (0, 0)) := block_grown HBX.out hgr (fun e => by have := (HLT.out _ e).2; omega)
    have kc2 := cells_of_pair hbxr
    have kw : Kept w0 wr := fun k hk => (hgr.block k (by simp; omega) (fun e => by have := (HLT.out k e.symm).1; omega)).trans (HK.out k hk)
    have hwr : w0.heap.size ≤ wr.heap.size := by omega
    have hsvr := HSV.out.grown hgr (fun g o e => (HAP.out g o e).1)
    have hapr : ∀ g o, bp = some ⟨g, o, none⟩ → (Value.slice q1 m c).ownBlock ≠ some g ∧ g < wr.heap.size := by
      intro g o e
      have h1 := HAP.out g o e
      refine ⟨?_, by omega⟩
      rcases hob with e2 | ⟨g2, e2, h2⟩
      · rw [e2]; exact h1.1
      · rw [e2]; intro e3; have := Option.some.inj e3; simp at h2; omega
    have HOB := hid hob
    have HGR := hid hgr
    have HOWN := hid hown
    have HSVR := hid hsvr
    have HAPR := hid hapr
    clear hown hgr hob hsvr hapr hbxr
    by_cases hlt : i < n
    · obtain ⟨x, hx⟩ : ∃ x, frs[i]? = some x := ⟨_, List.getElem?_eq_getElem (by rw [HN.out]; exact hlt)⟩
      have d2 : (i : Int) + 1 < (N : Int) := by omega
      have d2' : i + 1 < N := by omega
      have ca := kw.cell (HA.out (i + 1) (by omega))
      have cb := kw.cell (HB.out (i + 1) (by omega))
      obtain ⟨hc, hlen⟩ := HIH.out i x hx
      have hws : wsum (frs.drop i) = x.1 + wsum (frs.drop (i + 1)) := by rw [drop_at hx]; simp [wsum]
      have hfr : frAll (frs.drop i) bd = x.2 bd ++ frAll (frs.drop (i + 1)) bd := by rw [drop_at hx]; simp [frAll]
      have hwt : x.1 ≤ wsum frs := by
        have : ∀ (l : List (Nat × (List ByteArray → List ByteArray))) (i : Nat), l[i]? = some x → x.1 ≤ wsum l := by
          intro l; induction l with
          | nil => intro i h; simp at h
          | cons y l ihl =>
            intro i h
            cases i with
            | zero => simp at h; subst h; simp [wsum]
            | succ i => have := ihl i (by simpa using h); simp [wsum] at this ⊢; omega
        exact this frs i hx
      have HC := hid (hc bd L1 bp q1 bn bc m c base wr kw hwr hb0 (by omega) HSVR.out HAPR.out HOWN.out (by omega) (by omega))
      have hl2 : dedB L1 (frAll (frs.drop i) bd) = dedB (dedB L1 (x.2 bd)) (frAll (frs.drop (i + 1)) bd) := by rw [hfr, dedB_append]
      have hdl := dedB_le (x.2 bd) L1
      have hx2 := hlen bd
      obtain ⟨L2, hL2⟩ : ∃ L2, dedB L1 (x.2 bd) = L2 := ⟨_, rfl⟩
      rw [hL2] at HC hl2 hdl
      have hL2l : L2.length + wsum (frs.drop (i + 1)) ≤ 50000 := by have := hL.out.1; omega
      have HL2 := hid (show dedB L2 (frAll (frs.drop (i + 1)) bd) = R by rw [← hl2]; exact hL.out.2)
      clear hx hc hlen hws hfr hwt hl2 hdl hx2 hL2 hL kw hmw
      go_wp2_with (go_at_call 16; refine HC.out.mono ?_; rintro e w4 hp4; obtain ⟨q4, c4, rfl, ho4, hg4, hob4⟩ := hp4; have HO4 := hid ho4; have HG4 := hid hg4; have HOB4 := hid hob4; clear ho4 hg4 hob4)
      go_roundw
      case rel =>
        refine ⟨i + 1, L2.length, c4, q4, L2, by omega, by go_num, rfl, HO4.out, grow_chain HGR.out (Below.refl _ _) HG4.out HOB.out, ?_, hL2l, hid ⟨rfl, HL2.out⟩⟩
        rcases HOB4.out with e | ⟨g, e, hg⟩
        · rcases HOB.out with e2 | ⟨g, e2, hg⟩
          · exact Or.inl (e.trans e2)
          · exact Or.inr ⟨g, e.trans e2, hg⟩
        · exact Or.inr ⟨g, e, by simp; omega⟩
      case measure => simp [intOf]; omega
    · have he : R = L1 := by
        have := hL.out.2
        rw [List.drop_of_length_le (by rw [HN.out]; omega)] at this
        simpa [frAll, dedB] using this.symm
      have HE := hid he
      have HLL1 := hid hL.out.1
      have d3 : ¬ i + 1 < N := by omega
      clear he hL kw
      go_wp2_with fail
      go_ret
      refine ⟨q1, c, ?_, ?_, ?_, ?_⟩
      · rw [HE.out, HLL1.out]; rfl
      · rw [HE.out, HLL1.out]; exact HOWN.out
      · exact grow_chain (Below.grownBy HBW.out (Nat.le_refl _)) (Below.refl _ _) HGR.out (Or.inl rfl)
      · rw [HE.out, HLL1.out]
        rcases HOB.out with e | ⟨g, e, hg⟩
        · exact Or.inl e
        · exact Or.inr ⟨g, e, by simp at hg; omega⟩

theorem sv_new1 (w : World) (x : ByteArray) (t : TypeId) (n : Nat) (hn : n = w.heap.size) : SV (w.alloc (.cells #[.string x] t)) (some ⟨n, 0, none⟩) 1 1 [x] := by
  refine ⟨rfl, (fun h => by simp at h), fun i s hs => ?_⟩
  match i, hs with
  | 0, hs => simp at hs; subst hs; exact ⟨n, rfl, by subst hn; exact cell_of_one (heap_alloc_new w _)⟩

set_option maxRecDepth 100000 in
set_option maxHeartbeats 4000000 in
theorem free7_lam {w0 : World} {hd x : ByteArray} {b cap wt : Nat} {A : Nat → Hd} {fr : List ByteArray → List ByteArray} (hc4 : 4 ≤ cap ∧ cap ≤ maxLen)
    (e1 : (hd.toList == [108, 97, 109]) = true) (hh : (A 0).a = hd) (hx : (A 1).a = x)
    (hA : ∀ i, i < 4 → w0.cell? ⟨b, i * 2, none⟩ = some (.string (A i).a)) (hB : ∀ i, i < 4 → w0.cell? ⟨b, i * 2 + 1, none⟩ = some (.slice (A i).p (A i).l (A i).c))
    (ih : Free7 w0 wt fr (A 3)) : Free7 w0 (1 + wt) (fun bd => fr (bd ++ [x])) ⟨ByteArray.empty, some ⟨b, 0, none⟩, 4, cap⟩ := by
  intro bd L bp lp bn bc ln lc base w hk hw hb0 hbw hsv hap hown hbn hln
  show Calls _ _ _ _ (FreePost base (.slice lp ln lc) (dedB L (fr (bd ++ [x]))) w)
  have hbl : bd.length = bn := hsv.1
  obtain ⟨R, hR⟩ : ∃ R, dedB L (fr (bd ++ [x])) = R := ⟨_, rfl⟩
  rw [hR]
  have hmc : cap ≤ 9223372036854775807 := by have := hc4.2; unfold maxLen at this; omega
  have hcap : 4 ≤ cap := hc4.1
  obtain ⟨W0, hW0⟩ : ∃ W0, W0 = w.alloc (.cells #[.string ByteArray.empty, .slice (some ⟨b, 0, none⟩) 4 cap] 44) := ⟨_, rfl⟩
  have hW0s : W0.heap.size = w.heap.size + 1 := by rw [hW0]; simp
  have hbx0 := heap_new w (.cells #[.string ByteArray.empty, .slice (some ⟨b, 0, none⟩) 4 cap] 44) w.heap.size rfl
  rw [← hW0] at hbx0
  have hbelw : Below w.heap.size w W0 := by rw [hW0]; exact (Below.refl _ _).alloc (Nat.le_refl _) _
  have CF := hid (fun W (hb : Below W0.heap.size W0 W) => (show W.cell? ⟨w.heap.size, 0, none⟩ = some (.string ByteArray.empty) ∧ W.cell? ⟨w.heap.size, 1, none⟩ = some (.slice (some ⟨b, 0, none⟩) 4 cap) ∧ W.cell? ⟨b, 0, none⟩ = some (.string hd) ∧ W.cell? ⟨b, 2, none⟩ = some (.string x) ∧ W.cell? ⟨b, 6, none⟩ = some (.string (A 3).a) ∧ W.cell? ⟨b, 7, none⟩ = some (.slice (A 3).p (A 3).l (A 3).c) from by
    have kb : Kept w0 W := (hk.below hbelw hw).below hb (by omega)
    have c := cells_of_pair (block_below hbx0 hb (by omega))
    have a0 := kb.cell (hA 0 (by omega)); have a1 := kb.cell (hA 1 (by omega)); have a3 := kb.cell (hA 3 (by omega)); have b3 := kb.cell (hB 3 (by omega))
    rw [hh] at a0; rw [hx] at a1
    exact ⟨c.1, c.2.1, a0, a1, a3, b3⟩))
  have CG := hid (fun W W' (hb : Below W0.heap.size W0 W) (hg : W.grownBy W' (Value.slice lp ln lc).ownBlock) => (show W'.cell? ⟨w.heap.size, 0, none⟩ = some (.string ByteArray.empty) ∧ W'.cell? ⟨w.heap.size, 1, none⟩ = some (.slice (some ⟨b, 0, none⟩) 4 cap) ∧ W'.cell? ⟨b, 0, none⟩ = some (.string hd) ∧ W'.cell? ⟨b, 2, none⟩ = some (.string x) ∧ W'.cell? ⟨b, 6, none⟩ = some (.string (A 3).a) ∧ W'.cell? ⟨b, 7, none⟩ = some (.slice (A 3).p (A 3).l (A 3).c) from by
    have kb : Kept w0 W := (hk.below hbelw hw).below hb (by omega)
    have hs := hb.size
    have kg : Kept w0 W' := fun k hk2 => (hg.block k (by omega) (fun e => by have := (hown.lt k e.symm).1; omega)).trans (kb k hk2)
    have c := cells_of_pair (block_grown (block_below hbx0 hb (by omega)) hg (fun e => by have := (hown.lt _ e).2; omega))
    have a0 := kg.cell (hA 0 (by omega)); have a1 := kg.cell (hA 1 (by omega)); have a3 := kg.cell (hA 3 (by omega)); have b3 := kg.cell (hB 3 (by omega))
    rw [hh] at a0; rw [hx] at a1
    exact ⟨c.1, c.2.1, a0, a1, a3, b3⟩))
  have HWT := hid (fun (p1 p2 : Option Addr) c1 c2 W hv1 hv2 => l2With_any bd [x] p1 p2 bn 1 c1 c2 W hv1 hv2 (by omega) (by omega))
  have HC := hid (fun W (hb : Below W0.heap.size W0 W) (q2 : Option Addr) c2 (hv : SV W q2 (bn + 1) c2 (bd ++ [x])) (hq : ∀ g o, q2 = some ⟨g, o, none⟩ → W0.heap.size ≤ g ∧ g < W.heap.size) =>
    (show Calls Tryd.prog 16 #[.agg #[.string (A 3).a, .slice (A 3).p (A 3).l (A 3).c], .slice q2 (bn + 1) c2, .slice lp ln lc] W (FreePost base (.slice lp ln lc) R W) from by
      rw [← hR]
      have s1 := hb.size
      exact ih (bd ++ [x]) L q2 lp (bn + 1) c2 ln lc base W ((hk.below hbelw hw).below hb (by omega)) (by omega) hb0 (by omega) hv (fun g o e => ⟨fun e2 => by have := (hown.lt g e2).2; have := (hq g o e).1; omega, (hq g o e).2⟩) (ownsRow_under hown (hbelw.trans (hb.mono (by omega)))) (by omega) (by omega)))
  have HSV := hid (fun W (hb : Below W0.heap.size W0 W) => (hsv.kept (Kept.of_below (hbelw.trans (hb.mono (by omega))) (Nat.le_refl _)) : SV W bp bn bc bd))
  have HBW := hid hbelw
  have HBL := hid (show (bd ++ [x]).length = bn + 1 by simp [hbl])
  have HB2 := hid (show Below W0.heap.size W0 ((W0.alloc (.cells #[.string x] 9)).drew) from ((Below.refl _ _).alloc (Nat.le_refl _) _).drew)
  have HSX := hid (show SV ((W0.alloc (.cells #[.string x] 9)).drew) (some ⟨w.heap.size + 1, 0, none⟩) 1 1 [x] from (sv_new1 W0 x 9 _ hW0s.symm).kept (Kept.of_below (Below.refl _ _).drew (Nat.le_refl _)))
  have HWS := hid hW0s
  obtain ⟨d1, d2, d3, d4, d5, d6⟩ := CF.out W0 (Below.refl _ _)
  have e2 := CF.out _ HB2.out
  clear hk hsv hap hown hbl hR hbx0 hbelw hW0s ih hA hB hh hx hc4 hbn hln
  subst hW0
  go_enter Tryd.func16, Tryd.ntmps16
  go_wp2_with fail
  go_region_held3 (fun w' => w'.cell? ⟨w.heap.size, 0, none⟩ = some (.string ByteArray.empty) ∧ w'.cell? ⟨w.heap.size, 1, none⟩ = some (.slice (some ⟨b, 0, none⟩) 4 cap) ∧ w'.cell? ⟨b, 0, none⟩ = some (.string hd) ∧ w'.cell? ⟨b, 2, none⟩ = some (.string x) ∧ w'.cell? ⟨b, 6, none⟩ = some (.string (A 3).a) ∧ w'.cell? ⟨b, 7, none⟩ = some (.slice (A 3).p (A 3).l (A 3).c))
    (first | exact ⟨d1, d2, d3, d4, d5, d6⟩ | exact e4 | exact e3 | exact e2)
    (first
      | (have _ := HB3; go_at_call 16; refine (HC.out _ HB3.out _ _ hsv3 HLT3.out).mono ?_; rintro e w4 hp4; obtain ⟨q4, c4, rfl, ho4, hg4, hob4⟩ := hp4; have e4 := CG.out w3 w4 HB3.out hg4; have HO4 := hid ho4; have HG4 := hid hg4; have HOB4 := hid hob4; clear ho4 hg4 hob4)
      | (go_at_call 39; refine (HWT.out _ _ _ _ _ (HSV.out _ HB2.out) HSX.out).mono ?_; rintro e w3 hp3; obtain ⟨q3, c3, he3, hsv3, hlt3, hb3⟩ := hp3.full; rw [HBL.out] at he3 hsv3; subst he3; have hb03 := below_nx hb3 HB2.out; have s2 := HB2.out.size; have HB3 := hid hb03; have HLT3 := hid (fun g o e => And.intro (Nat.le_trans s2 (hlt3 g o e).1) (hlt3 g o e).2); have e3 := CF.out w3 HB3.out; clear hb3 hb03 hlt3))
  go_wp2_with fail
  go_ret
  have hb0w : Below w.heap.size w w3 := HBW.out.trans (HB3.out.mono (by simp))
  refine ⟨q4, c4, rfl, HO4.out, grow_chain (World.grownBy.refl _ _) hb0w HG4.out (Or.inl rfl), ?_⟩
  rcases HOB4.out with e | ⟨g, e, hg⟩
  · exact Or.inl e
  · exact Or.inr ⟨g, e, by have := hb0w.size; omega⟩
end Go.Proofs.YtgogoekfidbpdaaDoor

namespace Go.Proofs.YtgogoekfidbpdaaDoor
open Go.RowKit

theorem Free7.mono {w0 : World} {wt wt2 : Nat} {fr : List ByteArray → List ByteArray} {h : Hd} (H : Free7 w0 wt fr h) (hw : wt ≤ wt2) : Free7 w0 wt2 fr h :=
  fun bd L bp lp bn bc ln lc base w a1 a2 a3 a4 a5 a6 a7 a8 a9 => H bd L bp lp bn bc ln lc base w a1 a2 a3 a4 a5 a6 a7 (by omega) (by omega)
theorem Free7.cast {w0 : World} {wt : Nat} {fr fr2 : List ByteArray → List ByteArray} {h : Hd} (H : Free7 w0 wt fr h) (he : ∀ bd, fr bd = fr2 bd) : Free7 w0 wt fr2 h := by
  have : fr = fr2 := funext he
  rw [← this]; exact H

set_option maxRecDepth 100000 in
set_option maxHeartbeats 1000000 in
theorem free7_fail {w0 : World} {hd : ByteArray} {b cap N : Nat} {A : Nat → Hd} (hN : N = 2) (e1 : (hd.toList == [108, 97, 109]) = false) (e2 : (hd.toList == [102, 97, 105, 108]) = true) (hh : (A 0).a = hd)
    (c0 : w0.cell? ⟨b, 0, none⟩ = some (.string (A 0).a)) : Free7 w0 1 (fun _ => []) ⟨ByteArray.empty, some ⟨b, 0, none⟩, N, cap⟩ := by
  intro bd L bp lp bn bc ln lc base w hk hw hb0 hbw hsv hap hown hbn hln
  show Calls _ _ _ _ (FreePost base (.slice lp ln lc) L w)
  have hll : L.length = ln := by have := hown.1; simpa using this
  have c1 := hk.cell c0
  rw [hh] at c1
  have c2 : ∀ o, (w.alloc o).cell? ⟨b, 0, none⟩ = some (.string hd) := fun o => (World.cell?_of_block (w := w) (heap_alloc_old w o (World.block_lt_of_cell? w _ c1))).trans c1
  have HO := hid (fun o => hown.alloc o)
  have HLL := hid hll
  subst hN
  clear hk hsv hap hown hll c0 hh
  go_enter Tryd.func16, Tryd.ntmps16
  go_wp2_with fail
  go_ret
  refine ⟨lp, lc, by rw [HLL.out]; rfl, by rw [HLL.out]; exact HO.out _, Below.grownBy ((Below.refl w.heap.size w).alloc (Nat.le_refl _) _) (Nat.le_refl _), Or.inl (by rw [HLL.out])⟩

/-- THE NAMES THAT STAND FREE, BY THE MODEL. -/
theorem l7Free_any {w0 : World} {S : Nat → Prop} (m : Sx) : ∀ {h : Hd}, TIn w0 S m.tree h → m.tree.write.length ≤ 12000 → Free7 w0 m.tree.wt m.free h := by
  induction m with
  | name a =>
    intro h ht hwl
    cases ht with
    | atom s hne hm => exact free7_atom w0 a hne (by have : a.size ≤ 12000 := Nat.le_trans (text_le (.atom a)) hwl; omega)
  | bit a =>
    intro h ht hwl
    cases ht with
    | atom s hne hm => exact free7_atom w0 a hne (by have : a.size ≤ 12000 := Nat.le_trans (text_le (.atom a)) hwl; omega)
  | lam x s e ihe =>
    intro h ht hwl
    simp only [Sx.tree] at hwl
    cases ht with
    | node ps b cap A hp hl hc hS hA hB hps =>
      have H := free7_lam (w0 := w0) (hd := hLam) (x := x) (b := b) (cap := cap) (A := A) ⟨hl, hc⟩ (by rw [hLam_l]; rfl) (hps 0 _ rfl).text (hps 1 _ rfl).text hA hB (ihe (hps 3 _ rfl) (Nat.le_trans (part_le (i := 3) rfl) hwl))
      exact (H.cast (fun bd => rfl)).mono (by simp [Sx.tree, Tree.wt, Tree.wts]; omega)
  | app d e ihd ihe =>
    intro h ht hwl
    simp only [Sx.tree] at hwl
    cases ht with
    | node ps b cap A hp hl hc hS hA hB hps =>
      have H := free7_go (w0 := w0) (hd := hApp) (b := b) (cap := cap) (n := 2) (N := 3) (A := A) (frs := [(d.tree.wt, d.free), (e.tree.wt, e.free)]) rfl rfl (by omega) (by rw [hApp_l]; rfl) (by rw [hApp_l]; rfl) (hps 0 _ rfl).text hA hB (fun i x hx => by
        match i, hx with
        | 0, hx => simp at hx; subst hx; exact ⟨ihd (hps 1 _ rfl) (Nat.le_trans (part_le (i := 1) rfl) hwl), free7_le d⟩
        | 1, hx => simp at hx; subst hx; exact ⟨ihe (hps 2 _ rfl) (Nat.le_trans (part_le (i := 2) rfl) hwl), free7_le e⟩
        | i + 2, hx => simp at hx)
      exact (H.cast (fun bd => by simp [frAll, Sx.free])).mono (by simp [wsum, Sx.tree, Tree.wt, Tree.wts]; try omega)
  | iff d e g ihd ihe ihg =>
    intro h ht hwl
    simp only [Sx.tree] at hwl
    cases ht with
    | node ps b cap A hp hl hc hS hA hB hps =>
      have H := free7_go (w0 := w0) (hd := hIf) (b := b) (cap := cap) (n := 3) (N := 4) (A := A) (frs := [(d.tree.wt, d.free), (e.tree.wt, e.free), (g.tree.wt, g.free)]) rfl rfl (by omega) (by rw [hIf_l]; rfl) (by rw [hIf_l]; rfl) (hps 0 _ rfl).text hA hB (fun i x hx => by
        match i, hx with
        | 0, hx => simp at hx; subst hx; exact ⟨ihd (hps 1 _ rfl) (Nat.le_trans (part_le (i := 1) rfl) hwl), free7_le d⟩
        | 1, hx => simp at hx; subst hx; exact ⟨ihe (hps 2 _ rfl) (Nat.le_trans (part_le (i := 2) rfl) hwl), free7_le e⟩
        | 2, hx => simp at hx; subst hx; exact ⟨ihg (hps 3 _ rfl) (Nat.le_trans (part_le (i := 3) rfl) hwl), free7_le g⟩
        | i + 3, hx => simp at hx)
      exact (H.cast (fun bd => by simp [frAll, Sx.free])).mono (by simp [wsum, Sx.tree, Tree.wt, Tree.wts]; try omega)
  | pair d e ihd ihe =>
    intro h ht hwl
    simp only [Sx.tree] at hwl
    cases ht with
    | node ps b cap A hp hl hc hS hA hB hps =>
      have H := free7_go (w0 := w0) (hd := hPair) (b := b) (cap := cap) (n := 2) (N := 3) (A := A) (frs := [(d.tree.wt, d.free), (e.tree.wt, e.free)]) rfl rfl (by omega) (by rw [hPair_l]; rfl) (by rw [hPair_l]; rfl) (hps 0 _ rfl).text hA hB (fun i x hx => by
        match i, hx with
        | 0, hx => simp at hx; subst hx; exact ⟨ihd (hps 1 _ rfl) (Nat.le_trans (part_le (i := 1) rfl) hwl), free7_le d⟩
        | 1, hx => simp at hx; subst hx; exact ⟨ihe (hps 2 _ rfl) (Nat.le_trans (part_le (i := 2) rfl) hwl), free7_le e⟩
        | i + 2, hx => simp at hx)
      exact (H.cast (fun bd => by simp [frAll, Sx.free])).mono (by simp [wsum, Sx.tree, Tree.wt, Tree.wts]; try omega)
  | fst e ihe =>
    intro h ht hwl
    simp only [Sx.tree] at hwl
    cases ht with
    | node ps b cap A hp hl hc hS hA hB hps =>
      have H := free7_go (w0 := w0) (hd := hFst) (b := b) (cap := cap) (n := 1) (N := 2) (A := A) (frs := [(e.tree.wt, e.free)]) rfl rfl (by omega) (by rw [hFst_l]; rfl) (by rw [hFst_l]; rfl) (hps 0 _ rfl).text hA hB (fun i x hx => by
        match i, hx with
        | 0, hx => simp at hx; subst hx; exact ⟨ihe (hps 1 _ rfl) (Nat.le_trans (part_le (i := 1) rfl) hwl), free7_le e⟩
        | i + 1, hx => simp at hx)
      exact (H.cast (fun bd => by simp [frAll, Sx.free])).mono (by simp [wsum, Sx.tree, Tree.wt, Tree.wts]; try omega)
  | snd e ihe =>
    intro h ht hwl
    simp only [Sx.tree] at hwl
    cases ht with
    | node ps b cap A hp hl hc hS hA hB hps =>
      have H := free7_go (w0 := w0) (hd := hSnd) (b := b) (cap := cap) (n := 1) (N := 2) (A := A) (frs := [(e.tree.wt, e.free)]) rfl rfl (by omega) (by rw [hSnd_l]; rfl) (by rw [hSnd_l]; rfl) (hps 0 _ rfl).text hA hB (fun i x hx => by
        match i, hx with
        | 0, hx => simp at hx; subst hx; exact ⟨ihe (hps 1 _ rfl) (Nat.le_trans (part_le (i := 1) rfl) hwl), free7_le e⟩
        | i + 1, hx => simp at hx)
      exact (H.cast (fun bd => by simp [frAll, Sx.free])).mono (by simp [wsum, Sx.tree, Tree.wt, Tree.wts]; try omega)
  | get =>
    intro h ht hwl
    simp only [Sx.tree] at hwl
    cases ht with
    | node ps b cap A hp hl hc hS hA hB hps =>
      have H := free7_go (w0 := w0) (hd := hGet) (b := b) (cap := cap) (n := 0) (N := 1) (A := A) (frs := []) rfl rfl (by omega) (by rw [hGet_l]; rfl) (by rw [hGet_l]; rfl) (hps 0 _ rfl).text hA hB (fun i x hx => by
        match i, hx with
        | i + 0, hx => simp at hx)
      exact (H.cast (fun bd => by simp [frAll, Sx.free])).mono (by simp [wsum, Sx.tree, Tree.wt, Tree.wts]; try omega)
  | put e ihe =>
    intro h ht hwl
    simp only [Sx.tree] at hwl
    cases ht with
    | node ps b cap A hp hl hc hS hA hB hps =>
      have H := free7_go (w0 := w0) (hd := hPut) (b := b) (cap := cap) (n := 1) (N := 2) (A := A) (frs := [(e.tree.wt, e.free)]) rfl rfl (by omega) (by rw [hPut_l]; rfl) (by rw [hPut_l]; rfl) (hps 0 _ rfl).text hA hB (fun i x hx => by
        match i, hx with
        | 0, hx => simp at hx; subst hx; exact ⟨ihe (hps 1 _ rfl) (Nat.le_trans (part_le (i := 1) rfl) hwl), free7_le e⟩
        | i + 1, hx => simp at hx)
      exact (H.cast (fun bd => by simp [frAll, Sx.free])).mono (by simp [wsum, Sx.tree, Tree.wt, Tree.wts]; try omega)
  | fail s =>
    intro h ht hwl
    cases ht with
    | node ps b cap A hp hl hc hS hA hB hps =>
      have H := free7_fail (w0 := w0) (hd := hFail) (b := b) (cap := cap) (A := A) rfl (by rw [hFail_l]; rfl) (by rw [hFail_l]; rfl) (hps 0 _ rfl).text (by simpa using hA 0 (by simp))
      exact (H.cast (fun bd => rfl)).mono (by simp [Sx.tree, Tree.wt, Tree.wts])
end Go.Proofs.YtgogoekfidbpdaaDoor
