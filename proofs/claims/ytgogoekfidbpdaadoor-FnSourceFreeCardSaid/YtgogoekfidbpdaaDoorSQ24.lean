/- Merged: SxS, SxT, SxJ, SxK, SxL, SxM, StM, StN. -/
import Derived.Test.YtgogoekfidbpdaaDoorSQ9
import Derived.Test.YtgogoekfidbpdaaDoorSQ15
import Derived.Test.YtgogoekfidbpdaaDoorSQ13
import Derived.Test.YtgogoekfidbpdaaDoorSQSNames
import Derived.Deep.RegionWith
import Derived.Test.YtgogoekfidbpdaaDoorSQSStL
import Derived.Test.YtgogoekfidbpdaaDoorSQ0
namespace Go.Proofs.YtgogoekfidbpdaaDoor
open Go.RowKit

/-- A form's signs in the model's letters. -/
def lowS (l : List Fg) : ByteArray := ⟨(l.map Fg.low).toArray⟩
theorem lowS_size (l : List Fg) : (lowS l).size = l.length := by simp [lowS, ByteArray.size]
theorem lowS_get (l : List Fg) (i : Nat) (c : Fg) (h : l[i]? = some c) (hi : i < (lowS l).size) : (lowS l)[i] = c.low := by
  have h1 := toList_get (lowS l) i hi
  rw [Go.ByteArray.toList_eq] at h1
  simp [lowS, h] at h1
  exact h1.symm
/-- What l7Shape answers. -/
def shp7 (l : List UInt8) : ByteArray := lowS ((frm l).getD [])

set_option maxRecDepth 100000 in
set_option maxHeartbeats 1000000 in
theorem l7Shape_any (s : ByteArray) (w : World) : Calls Tryd.prog 50 #[.string s] w fun e w' => e = .returned (.string (shp7 s.toList)) ∧ w = w' := by
  cases e0 : s.toList == [108, 97, 109] with
  | true =>
    have hq := hid (show shp7 s.toList = shp7 [108, 97, 109] by rw [eq_t e0])
    go_enter Tryd.func50, Tryd.ntmps50
    go_wp2
    go_ret
    exact ⟨by rw [hq.out]; rfl, rfl⟩
  | false =>
    cases e1 : s.toList == [97, 112, 112] with
    | true =>
      have hq := hid (show shp7 s.toList = shp7 [97, 112, 112] by rw [eq_t e1])
      go_enter Tryd.func50, Tryd.ntmps50
      go_wp2
      go_ret
      exact ⟨by rw [hq.out]; rfl, rfl⟩
    | false =>
      cases e2 : s.toList == [112, 97, 105, 114] with
      | true =>
        have hq := hid (show shp7 s.toList = shp7 [112, 97, 105, 114] by rw [eq_t e2])
        go_enter Tryd.func50, Tryd.ntmps50
        go_wp2
        go_ret
        exact ⟨by rw [hq.out]; rfl, rfl⟩
      | false =>
        cases e3 : s.toList == [105, 102] with
        | true =>
          have hq := hid (show shp7 s.toList = shp7 [105, 102] by rw [eq_t e3])
          go_enter Tryd.func50, Tryd.ntmps50
          go_wp2
          go_ret
          exact ⟨by rw [hq.out]; rfl, rfl⟩
        | false =>
          cases e4 : s.toList == [102, 115, 116] with
          | true =>
            have hq := hid (show shp7 s.toList = shp7 [102, 115, 116] by rw [eq_t e4])
            go_enter Tryd.func50, Tryd.ntmps50
            go_wp2
            go_ret
            exact ⟨by rw [hq.out]; rfl, rfl⟩
          | false =>
            cases e5 : s.toList == [115, 110, 100] with
            | true =>
              have hq := hid (show shp7 s.toList = shp7 [115, 110, 100] by rw [eq_t e5])
              go_enter Tryd.func50, Tryd.ntmps50
              go_wp2
              go_ret
              exact ⟨by rw [hq.out]; rfl, rfl⟩
            | false =>
              cases e6 : s.toList == [112, 117, 116] with
              | true =>
                have hq := hid (show shp7 s.toList = shp7 [112, 117, 116] by rw [eq_t e6])
                go_enter Tryd.func50, Tryd.ntmps50
                go_wp2
                go_ret
                exact ⟨by rw [hq.out]; rfl, rfl⟩
              | false =>
                cases e7 : s.toList == [102, 97, 105, 108] with
                | true =>
                  have hq := hid (show shp7 s.toList = shp7 [102, 97, 105, 108] by rw [eq_t e7])
                  go_enter Tryd.func50, Tryd.ntmps50
                  go_wp2
                  go_ret
                  exact ⟨by rw [hq.out]; rfl, rfl⟩
                | false =>
                  have hq := hid (show shp7 s.toList = lowS [] by simp only [beq_eq_false_iff_ne, ne_eq] at e0 e1 e2 e3 e4 e5 e6 e7; simp only [shp7, frm, e0, e1, e2, e3, e4, e5, e6, e7, if_false, or_self]; split <;> rfl)
                  go_enter Tryd.func50, Tryd.ntmps50
                  go_wp2
                  go_ret
                  exact ⟨by rw [hq.out]; rfl, rfl⟩

set_option maxRecDepth 100000 in
set_option maxHeartbeats 1000000 in
theorem l7Is_any {w0 : World} {S : Nat → Prop} {t : Tree} {h : Hd} (ht : TIn w0 S t h) (hsz : t.size ≤ 12000) (w : World) (hk : Kept w0 w) (hw : w0.heap.size ≤ w.heap.size) :
    Calls Tryd.prog 51 #[.agg #[.string h.a, .slice h.p h.l h.c]] w fun e w' => e = .returned (.bool (stLim t).isSome) ∧ Below w.heap.size w w' := by
  obtain ⟨pa, pp, pl, pc⟩ := h
  have HC := hid (fun W hk hs => l7Source_any ht W hk hs)
  have HS := hid (fun W hk hs => l1Size_any ht hsz W hk hs)
  have HK := hid (hk.alloc hw (.cells #[.string pa, .slice pp pl pc] 44))
  have HN := hid (fun W (hb : Below (w.alloc (.cells #[.string pa, .slice pp pl pc] 44)).heap.size (w.alloc (.cells #[.string pa, .slice pp pl pc] 44)) W) => cells_of_pair (block_below (heap_new w (.cells #[.string pa, .slice pp pl pc] 44) _ rfl) hb (by simp)))
  clear ht hk
  obtain ⟨bx, hbx⟩ : ∃ bx, bx = t.sty.isSome := ⟨_, rfl⟩
  rw [← hbx] at HC
  cases bx with
  | false =>
    have HR := hid (show (stLim t).isSome = false by
      rw [stLim]; split
      · exact hbx.symm
      · rfl)
    clear hbx
    go_enter Tryd.func51, Tryd.ntmps51
    go_wp2_with (go_at_call 42; refine (HC.out _ HK.out (by simp; omega)).mono ?_; rintro e w1 ⟨rfl, hb1⟩)
    go_ret
    exact ⟨ret_bool HR.out.symm, ((Below.refl _ _).alloc (Nat.le_refl _) _).trans (hb1.mono (by simp))⟩
  | true =>
    have HR := hid (show (stLim t).isSome = decide ((t.size : Int) ≤ 12) by
      rw [stLim]
      by_cases h : t.size ≤ 12
      · rw [if_pos h, decide_eq_true (by omega)]; exact hbx.symm
      · rw [if_neg h, decide_eq_false (by omega)]; rfl)
    clear hbx
    go_enter Tryd.func51, Tryd.ntmps51
    go_wp2_with (first | (go_at_call 42; refine (HC.out _ HK.out (by simp; omega)).mono ?_; rintro e w1 ⟨rfl, hb1⟩; obtain ⟨c1, c2, -, -⟩ := HN.out w1 hb1; have s1 := hb1.size; simp at s1) | (go_at_call 36; refine (HS.out _ (HK.out.below hb1 (by simp; omega)) (by omega)).mono ?_; rintro e w2 ⟨rfl, hb2⟩))
    go_ret
    exact ⟨ret_bool HR.out.symm, ((Below.refl _ _).alloc (Nat.le_refl _) _).trans ((hb1.mono (by simp)).trans (hb2.mono (by omega)))⟩
end Go.Proofs.YtgogoekfidbpdaaDoor

namespace Go.Proofs.YtgogoekfidbpdaaDoor
open Go.RowKit

set_option maxRecDepth 100000 in
set_option maxHeartbeats 1000000 in
theorem l7Expr_atom (s : ByteArray) (hne : s.size ≠ 0) (hm : s.size ≤ 400000000) (w : World) :
    Calls Tryd.prog 35 #[.agg #[.string s, .slice none 0 0]] w fun e w' => e = .returned (.bool (Tree.atom s).sx.isSome) ∧ Below w.heap.size w w' := by
  have he := isEmpty_not s hne
  have HN := hid (fun W => (l2Name_any s hm W).mono fun e w' h => (⟨h.1, h.2⟩ : _ ∧ W = w'))
  have HT := hid (show (Tree.atom s).sx = atomSx s by rw [Tree.sx])
  cases e0 : s.toList == [48] with
  | true =>
    have HQ := hid (show (Tree.atom s).sx.isSome = true by rw [HT.out, atomSx, if_pos (Or.inl (by simpa using e0))]; rfl)
    go_enter Tryd.func35, Tryd.ntmps35
    go_wp2_with fail
    go_ret
    exact ⟨ret_bool HQ.out.symm, (Below.refl _ _).alloc (Nat.le_refl _) _⟩
  | false =>
    cases e1 : s.toList == [49] with
    | true =>
      have HQ := hid (show (Tree.atom s).sx.isSome = true by rw [HT.out, atomSx, if_pos (Or.inr (by simpa using e1))]; rfl)
      go_enter Tryd.func35, Tryd.ntmps35
      go_wp2_with fail
      go_ret
      exact ⟨ret_bool HQ.out.symm, (Below.refl _ _).alloc (Nat.le_refl _) _⟩
    | false =>
      have HQ := hid (show (Tree.atom s).sx.isSome = nameB s.toList by
        rw [HT.out, atomSx, if_neg (fun h => by rcases h with h | h; (· simp [h] at e0); (· simp [h] at e1))]
        cases nameB s.toList <;> rfl)
      go_enter Tryd.func35, Tryd.ntmps35
      go_wp2_with (go_at_call 37; refine (HN.out _).mono ?_; rintro e w1 ⟨rfl, rfl⟩)
      go_ret
      exact ⟨ret_bool HQ.out.symm, (Below.refl _ _).alloc (Nat.le_refl _) _⟩

set_option maxRecDepth 100000 in
set_option maxHeartbeats 1000000 in
theorem l7Expr_get {q : Tree} {qs : List Tree} {b cap n : Nat} (hn : qs.length = n) (hn2 : n ≤ 12000) (w : World)
    (hh : ∀ o, Calls Tryd.prog 24 #[.agg #[.string ByteArray.empty, .slice (some ⟨b, 0, none⟩) (n + 1) cap]] (w.alloc o) fun e w' => e = .returned (.string q.text) ∧ Below (w.alloc o).heap.size (w.alloc o) w')
    (e0 : (q.text.toList == [103, 101, 116]) = true) :
    Calls Tryd.prog 35 #[.agg #[.string ByteArray.empty, .slice (some ⟨b, 0, none⟩) (n + 1) cap]] w fun e w' => e = .returned (.bool (Tree.node (q :: qs)).sx.isSome) ∧ Below w.heap.size w w' := by
  have HH := hid hh
  have hn3 : (n : Int) + 1 ≤ 12001 := by omega
  have HR := hid (show (Tree.node (q :: qs)).sx.isSome = ((n : Int) + 1 == 1) by
    have hf : frm q.text.toList = some [] := by rw [eq_t e0]; rfl
    rw [sx_isSome hf]
    cases qs with
    | nil => simp at hn; subst hn; rfl
    | cons p ps => simp at hn; simp only [addL]; symm; simp; omega)
  clear hh hn
  go_enter Tryd.func35, Tryd.ntmps35
  go_wp2_with (go_at_call 24; refine (HH.out _).mono ?_; rintro e w1 ⟨rfl, hb1⟩; have kc := cells_of_pair (block_below (heap_new w (.cells #[.string ByteArray.empty, .slice (some ⟨b, 0, none⟩) (n + 1) cap] 44) _ rfl) hb1 (by simp)))
  go_ret
  exact ⟨ret_bool HR.out.symm, ((Below.refl _ _).alloc (Nat.le_refl _) _).trans (hb1.mono (by simp))⟩

set_option maxRecDepth 100000 in
set_option maxHeartbeats 2000000 in
theorem l7Expr_no {q : Tree} {qs : List Tree} {b cap n : Nat} (hn : qs.length = n) (hn2 : n ≤ 12000) (w : World)
    (hh : ∀ o, Calls Tryd.prog 24 #[.agg #[.string ByteArray.empty, .slice (some ⟨b, 0, none⟩) (n + 1) cap]] (w.alloc o) fun e w' => e = .returned (.string q.text) ∧ Below (w.alloc o).heap.size (w.alloc o) w')
    (e0 : (q.text.toList == [103, 101, 116]) = false) (hno : ∀ f, frm q.text.toList = some f → f.length ≠ qs.length) :
    Calls Tryd.prog 35 #[.agg #[.string ByteArray.empty, .slice (some ⟨b, 0, none⟩) (n + 1) cap]] w fun e w' => e = .returned (.bool (Tree.node (q :: qs)).sx.isSome) ∧ Below w.heap.size w w' := by
  have HH := hid hh
  have HF := hid (fun W => l7Shape_any q.text W)
  have hn3 : (n : Int) + 1 ≤ 12001 := by omega
  have HR := hid (show (Tree.node (q :: qs)).sx.isSome = false by
    cases hf : frm q.text.toList with
    | none => rw [sx_none hf]; rfl
    | some f => rw [sx_isSome hf, addL_bad (hno f hf)]; rfl)
  have hsz : (shp7 q.text.toList).size = 0 ∨ (shp7 q.text.toList).size ≠ n ∧ (shp7 q.text.toList).size ≤ 3 := by
    unfold shp7
    rw [lowS_size]
    cases hf : frm q.text.toList with
    | none => exact Or.inl rfl
    | some f => exact Or.inr ⟨by rw [← hn]; exact hno f hf, frm_len hf⟩
  obtain ⟨F, hF⟩ : ∃ F, shp7 q.text.toList = F := ⟨_, rfl⟩
  rw [hF] at HF hsz
  clear hh hno hF hn
  by_cases he : F.size = 0
  · have f1 := isEmpty_of F he
    clear hsz he
    go_enter Tryd.func35, Tryd.ntmps35
    go_wp2_with (first | (go_at_call 24; refine (HH.out _).mono ?_; rintro e w1 ⟨rfl, hb1⟩; have kc := cells_of_pair (block_below (heap_new w (.cells #[.string ByteArray.empty, .slice (some ⟨b, 0, none⟩) (n + 1) cap] 44) _ rfl) hb1 (by simp))) | (go_at_call 50; refine (HF.out _).mono ?_; rintro e w2 ⟨rfl, rfl⟩))
    go_ret
    exact ⟨ret_bool HR.out.symm, ((Below.refl _ _).alloc (Nat.le_refl _) _).trans (hb1.mono (by simp))⟩
  · have f1 := isEmpty_not F he
    have f3 : F.size ≤ 3 := by omega
    have f2 : ((n : Int) + 1 != (F.size : Int) + 1) = true := bne_iff_ne.2 (by omega)
    clear hsz he
    go_enter Tryd.func35, Tryd.ntmps35
    go_wp2_with (first | (go_at_call 24; refine (HH.out _).mono ?_; rintro e w1 ⟨rfl, hb1⟩; have kc := cells_of_pair (block_below (heap_new w (.cells #[.string ByteArray.empty, .slice (some ⟨b, 0, none⟩) (n + 1) cap] 44) _ rfl) hb1 (by simp))) | (go_at_call 50; refine (HF.out _).mono ?_; rintro e w2 ⟨rfl, rfl⟩))
    go_ret
    exact ⟨ret_bool HR.out.symm, ((Below.refl _ _).alloc (Nat.le_refl _) _).trans (hb1.mono (by simp))⟩

set_option maxRecDepth 100000 in
set_option maxHeartbeats 8000000 in
theorem l7Expr_go {w0 : World} {S : Nat → Prop} {q : Tree} {qs : List Tree} {b cap n : Nat} {A : Nat → Hd} {f : List Fg} (hn : qs.length = n) (_hl : n + 1 ≤ cap) (hc : cap ≤ maxLen)
    (hsz : ∀ (i : Nat) (p : Tree), (q :: qs)[i]? = some p → p.size ≤ 12000 ∧ p.write.length ≤ 12000)
    (hA : ∀ i, i < n + 1 → w0.cell? ⟨b, i * 2, none⟩ = some (.string (A i).a)) (hB : ∀ i, i < n + 1 → w0.cell? ⟨b, i * 2 + 1, none⟩ = some (.slice (A i).p (A i).l (A i).c))
    (hps : ∀ (i : Nat) (p : Tree), (q :: qs)[i]? = some p → TIn w0 S p (A i))
    (ih : ∀ (i : Nat) (p : Tree), (q :: qs)[i]? = some p → ∀ W, Kept w0 W → w0.heap.size ≤ W.heap.size → Calls Tryd.prog 35 #[.agg #[.string (A i).a, .slice (A i).p (A i).l (A i).c]] W fun e w' => e = .returned (.bool p.sx.isSome) ∧ Below W.heap.size W w')
    (w : World) (hk : Kept w0 w) (hw : w0.heap.size ≤ w.heap.size)
    (hh : ∀ o, Calls Tryd.prog 24 #[.agg #[.string ByteArray.empty, .slice (some ⟨b, 0, none⟩) (n + 1) cap]] (w.alloc o) fun e w' => e = .returned (.string q.text) ∧ Below (w.alloc o).heap.size (w.alloc o) w')
    (e0 : (q.text.toList == [103, 101, 116]) = false) (hf : frm q.text.toList = some f) (hfl : f.length = qs.length) :
    Calls Tryd.prog 35 #[.agg #[.string ByteArray.empty, .slice (some ⟨b, 0, none⟩) (n + 1) cap]] w fun e w' => e = .returned (.bool (Tree.node (q :: qs)).sx.isSome) ∧ Below w.heap.size w w' := by
  obtain ⟨R, hR⟩ : ∃ R, addL f qs (qs.map Tree.sx) Sst.none = R := ⟨_, rfl⟩
  rw [sx_isSome hf, hR]
  have hn3 : n ≤ 3 := by rw [← hn, ← hfl]; exact frm_len hf
  have hn0 : n ≠ 0 := by
    intro e
    have : f = [] := List.eq_nil_of_length_eq_zero (by omega)
    subst this
    rw [frm_nil hf] at e0; simp at e0
  have hmc : cap ≤ 9223372036854775807 := by unfold maxLen at hc; omega
  have HH := hid hh
  have HF := hid (fun W => (show Calls Tryd.prog 50 #[.string q.text] W fun e w' => e = .returned (.string (lowS f)) ∧ W = w' from by
    have := l7Shape_any q.text W
    rw [shp7, hf] at this; exact this))
  have hFs := lowS_size f
  have HFG := hid (fun i c h hi => lowS_get f i c h hi)
  obtain ⟨F, hF⟩ : ∃ F, lowS f = F := ⟨_, rfl⟩
  rw [hF] at HF hFs HFG
  rw [hfl, hn] at hFs
  have f1 := isEmpty_not F (by omega)
  have f2 : ((n : Int) + 1 != (F.size : Int) + 1) = false := by simp [hFs]
  have f3 : F.size ≤ 3 := by omega
  have hFle : n ≤ F.size := by omega
  have hFge : F.size ≤ n := by omega
  have HR := hid hR
  have HN := hid hn
  have HFL := hid hfl
  have HA := hid hA
  have HB := hid hB
  have HPS := hid hps
  have HIH := hid ih
  have HSZ := hid hsz
  have HK := hid hk
  clear hA hB hps ih hsz hk hR hn hfl hf hFs hF hh
  go_enter Tryd.func35, Tryd.ntmps35
  go_wp2_with (first | (go_at_call 24; refine (HH.out _).mono ?_; rintro e w1 ⟨rfl, hb1⟩; have kc := cells_of_pair (block_below (heap_new w (.cells #[.string ByteArray.empty, .slice (some ⟨b, 0, none⟩) (n + 1) cap] 44) _ rfl) hb1 (by simp))) | (go_at_call 50; refine (HF.out _).mono ?_; rintro e w2 ⟨rfl, rfl⟩))
  go_loopw [5] (fun u wr => ∃ (i : Nat) (st : Sst), i ≤ n ∧ u = .int .i64 (i : Int) ∧ Hid (addL (f.drop i) (qs.drop i) ((qs.map Tree.sx).drop i) st = R) ∧ Below (w.heap.size + 1) (w.alloc (.cells #[.string ByteArray.empty, .slice (some ⟨b, 0, none⟩) (n + 1) cap] 44)) wr) (fun u _ => n - (intOf u).toNat)
  case atStart => exact ⟨0, Sst.none, Nat.zero_le _, rfl, by show _ = _; rw [List.drop_zero, List.drop_zero, List.drop_zero]; exact HR.out, hb1.mono (by simp)⟩
  case round =>
    obtain ⟨i, st, hi, rfl, hparts, hbel⟩ := hrel
    have hz := hbel.size
    simp at hz
    have kc2 := cells_of_pair (block_below (heap_new w (.cells #[.string ByteArray.empty, .slice (some ⟨b, 0, none⟩) (n + 1) cap] 44) w.heap.size rfl) hbel (by omega))
    have kw : Kept w0 wr := (HK.out.alloc hw _).below hbel (by omega)
    have hwr : w0.heap.size ≤ wr.heap.size := by omega
    by_cases hlt : i < n
    · obtain ⟨p, hp⟩ : ∃ p, qs[i]? = some p := ⟨_, List.getElem?_eq_getElem (by rw [HN.out]; exact hlt)⟩
      obtain ⟨g, hcc⟩ : ∃ g, f[i]? = some g := ⟨_, List.getElem?_eq_getElem (by rw [HFL.out, HN.out]; exact hlt)⟩
      have hiF : i < F.size := by omega
      have hFc := HFG.out i g hcc hiF
      have hpt : (q :: qs)[i + 1]? = some p := by simpa using hp
      obtain ⟨hp1, hp2⟩ := HSZ.out (i + 1) p hpt
      have d2 : i + 1 < n + 1 := by omega
      have ca := kw.cell (HA.out (i + 1) (by omega))
      have cb := kw.cell (HB.out (i + 1) (by omega))
      have hstep : addL (f.drop i) (qs.drop i) ((qs.map Tree.sx).drop i) st = match add7 g p p.sx st with
          | some st' => addL (f.drop (i + 1)) (qs.drop (i + 1)) ((qs.map Tree.sx).drop (i + 1)) st'
          | none => none := by
        have e1 := List.getElem?_eq_some_iff.1 hp
        have e2 := List.getElem?_eq_some_iff.1 hcc
        have e3 : (qs.map Tree.sx)[i]? = some p.sx := by rw [List.getElem?_map, hp]; rfl
        have e4 := List.getElem?_eq_some_iff.1 e3
        rw [List.drop_eq_getElem_cons e1.1, List.drop_eq_getElem_cons e2.1, List.drop_eq_getElem_cons e4.1, e1.2, e2.2, e4.2, addL_cons]
        cases add7 g p p.sx st <;> rfl
      rw [hparts.out] at hstep
      have KA := hid (fun o => hk_alloc kw hwr o)
      cases g with
      | e =>
        have hT : F[i].toNat = 101 := by rw [hFc]; rfl
        cases hO : add7 .e p p.sx st with
        | none =>
          rw [hO] at hstep
          have HRN := hid (show R = none from hstep)
          have HC := hid (fun W (hk : Kept w0 W) (hs : w0.heap.size ≤ W.heap.size) => (show Calls Tryd.prog 35 #[.agg #[.string (A (i + 1)).a, .slice (A (i + 1)).p (A (i + 1)).l (A (i + 1)).c]] W fun e w' => e = .returned (.bool false) ∧ Below W.heap.size W w' from by
            have hc := HIH.out (i + 1) p hpt W hk hs
            rw [show p.sx.isSome = false from by cases h : p.sx with | none => rfl | some k => rw [h, add7] at hO; simp at hO] at hc
            exact hc))
          clear hstep hparts kw hp hcc hFc hpt hO
          go_wp2_with (go_at_call 35; refine (HC.out _ (KA.out _) (by simp; omega)).mono ?_; rintro e w3 ⟨rfl, hb3⟩)
          go_ret
          exact ⟨ret_bool (by rw [HRN.out]; rfl), ((Below.refl _ _).alloc (Nat.le_refl _) _).trans (((hbel.alloc (by omega) _).trans (hb3.mono (by simp; omega))).mono (by omega))⟩
        | some st' =>
          rw [hO] at hstep
          have HRS := hid hstep.symm
          have HC := hid (fun W (hk : Kept w0 W) (hs : w0.heap.size ≤ W.heap.size) => (show Calls Tryd.prog 35 #[.agg #[.string (A (i + 1)).a, .slice (A (i + 1)).p (A (i + 1)).l (A (i + 1)).c]] W fun e w' => e = .returned (.bool true) ∧ Below W.heap.size W w' from by
            have hc := HIH.out (i + 1) p hpt W hk hs
            rw [show p.sx.isSome = true from by obtain ⟨k, hk, _⟩ := add7_e hO; rw [hk]; rfl] at hc
            exact hc))
          clear hstep hparts kw hp hcc hFc hpt hO
          go_wp2_with (go_at_call 35; refine (HC.out _ (KA.out _) (by simp; omega)).mono ?_; rintro e w3 ⟨rfl, hb3⟩)
          go_roundw
          case rel => exact ⟨i + 1, st', by omega, by go_num, HRS, ((hbel.alloc (by omega) _).trans (hb3.mono (by simp; omega)))⟩
          case measure => simp [intOf]; omega
      | x =>
        have hT : F[i].toNat = 120 := by rw [hFc]; rfl
        cases hO : add7 .x p p.sx st with
        | none =>
          rw [hO] at hstep
          have HRN := hid (show R = none from hstep)
          have HC := hid (fun W => (show Calls Tryd.prog 37 #[.string (A (i + 1)).a] W fun e w' => e = .returned (.bool false) ∧ W = w' from by
            have hc := l2Name_any (A (i + 1)).a (by rw [(HPS.out (i + 1) p hpt).text]; exact Nat.le_trans (text_le p) (by omega)) W
            rw [(HPS.out (i + 1) p hpt).text, show nameB p.text.toList = false from by cases h : nameB p.text.toList with | false => rfl | true => rw [add7, if_pos h] at hO; simp at hO] at hc
            rw [(HPS.out (i + 1) p hpt).text]
            exact hc.mono fun e w' h => ⟨h.1, h.2⟩))
          clear hstep hparts kw hp hcc hFc hpt hO
          go_wp2_with (go_at_call 37; refine (HC.out _).mono ?_; rintro e w3 ⟨rfl, rfl⟩)
          go_ret
          exact ⟨ret_bool (by rw [HRN.out]; rfl), ((Below.refl _ _).alloc (Nat.le_refl _) _).trans ((hbel.alloc (by omega) _).mono (by omega))⟩
        | some st' =>
          rw [hO] at hstep
          have HRS := hid hstep.symm
          have HC := hid (fun W => (show Calls Tryd.prog 37 #[.string (A (i + 1)).a] W fun e w' => e = .returned (.bool true) ∧ W = w' from by
            have hc := l2Name_any (A (i + 1)).a (by rw [(HPS.out (i + 1) p hpt).text]; exact Nat.le_trans (text_le p) (by omega)) W
            rw [(HPS.out (i + 1) p hpt).text, show nameB p.text.toList = true from (add7_x hO).1] at hc
            rw [(HPS.out (i + 1) p hpt).text]
            exact hc.mono fun e w' h => ⟨h.1, h.2⟩))
          clear hstep hparts kw hp hcc hFc hpt hO
          go_wp2_with (go_at_call 37; refine (HC.out _).mono ?_; rintro e w3 ⟨rfl, rfl⟩)
          go_roundw
          case rel => exact ⟨i + 1, st', by omega, by go_num, HRS, (hbel.alloc (by omega) _)⟩
          case measure => simp [intOf]; omega
      | s =>
        have hT : F[i].toNat = 115 := by rw [hFc]; rfl
        cases hO : add7 .s p p.sx st with
        | none =>
          rw [hO] at hstep
          have HRN := hid (show R = none from hstep)
          have HC := hid (fun W (hk : Kept w0 W) (hs : w0.heap.size ≤ W.heap.size) => (show Calls Tryd.prog 51 #[.agg #[.string (A (i + 1)).a, .slice (A (i + 1)).p (A (i + 1)).l (A (i + 1)).c]] W fun e w' => e = .returned (.bool false) ∧ Below W.heap.size W w' from by
            have hc := l7Is_any (HPS.out (i + 1) p hpt) (by omega) W hk hs
            rw [show (stLim p).isSome = false from by cases h : stLim p with | none => rfl | some k => rw [add7, h] at hO; simp at hO] at hc
            exact hc))
          clear hstep hparts kw hp hcc hFc hpt hO
          go_wp2_with (go_at_call 51; refine (HC.out _ (KA.out _) (by simp; omega)).mono ?_; rintro e w3 ⟨rfl, hb3⟩)
          go_ret
          exact ⟨ret_bool (by rw [HRN.out]; rfl), ((Below.refl _ _).alloc (Nat.le_refl _) _).trans (((hbel.alloc (by omega) _).trans (hb3.mono (by simp; omega))).mono (by omega))⟩
        | some st' =>
          rw [hO] at hstep
          have HRS := hid hstep.symm
          have HC := hid (fun W (hk : Kept w0 W) (hs : w0.heap.size ≤ W.heap.size) => (show Calls Tryd.prog 51 #[.agg #[.string (A (i + 1)).a, .slice (A (i + 1)).p (A (i + 1)).l (A (i + 1)).c]] W fun e w' => e = .returned (.bool true) ∧ Below W.heap.size W w' from by
            have hc := l7Is_any (HPS.out (i + 1) p hpt) (by omega) W hk hs
            rw [show (stLim p).isSome = true from by obtain ⟨s, h1, h2, _⟩ := add7_s hO; rw [stLim, if_pos h1, h2]; rfl] at hc
            exact hc))
          clear hstep hparts kw hp hcc hFc hpt hO
          go_wp2_with (go_at_call 51; refine (HC.out _ (KA.out _) (by simp; omega)).mono ?_; rintro e w3 ⟨rfl, hb3⟩)
          go_roundw
          case rel => exact ⟨i + 1, st', by omega, by go_num, HRS, ((hbel.alloc (by omega) _).trans (hb3.mono (by simp; omega)))⟩
          case measure => simp [intOf]; omega
    · have hin : i = n := by omega
      have hRe : R = some st := by
        rw [← hparts.out, hin, List.drop_of_length_le (by rw [HFL.out, HN.out]; exact Nat.le_refl _), List.drop_of_length_le (by rw [HN.out]; exact Nat.le_refl _), List.drop_of_length_le (by rw [List.length_map, HN.out]; exact Nat.le_refl _)]
        rfl
      have HRE := hid hRe
      clear hin hRe hparts kw
      go_wp2_with fail
      go_ret
      exact ⟨ret_bool (by rw [HRE.out]; rfl), ((Below.refl _ _).alloc (Nat.le_refl _) _).trans (hbel.mono (by omega))⟩

/-- THE MODEL's SOURCE EXPRESSIONS. -/
theorem l7Expr_any {w0 : World} {S : Nat → Prop} {t : Tree} {h : Hd} (ht : TIn w0 S t h) : t.size ≤ 12000 → t.wt ≤ 12000 → t.write.length ≤ 12000 → ∀ w, Kept w0 w → w0.heap.size ≤ w.heap.size →
    Calls Tryd.prog 35 #[.agg #[.string h.a, .slice h.p h.l h.c]] w fun e w' => e = .returned (.bool t.sx.isSome) ∧ Below w.heap.size w w' := by
  induction ht with
  | atom s hne hm =>
    intro _ _ hwl w _ _
    exact l7Expr_atom s hne (by have : s.size ≤ 12000 := Nat.le_trans (text_le (.atom s)) hwl; omega) w
  | node ps b cap A hp hl hc hS hA hB hps ih =>
    intro hsz hwt hwl w hk hw
    have hh := fun o => l1Head_any (TIn.node ps b cap A hp hl hc hS hA hB hps) (w.alloc o) (hk.alloc hw o)
    obtain ⟨q, qs, rfl⟩ : ∃ q qs, ps = q :: qs := by cases ps with | nil => simp at hp | cons q qs => exact ⟨q, qs, rfl⟩
    have hlen := wts_length (q :: qs)
    rw [Tree.wt] at hwt
    simp only [List.length_cons] at hl hA hB hlen hh
    have hsz2 : ∀ (i : Nat) (p : Tree), (q :: qs)[i]? = some p → p.size ≤ 12000 ∧ p.write.length ≤ 12000 := fun i p h => ⟨by have := size_part _ i p h; rw [Tree.size] at hsz; omega, Nat.le_trans (part_le h) hwl⟩
    cases e0 : q.text.toList == [103, 101, 116] with
    | true => exact l7Expr_get rfl (by omega) w hh e0
    | false =>
      by_cases hno : ∀ f, frm q.text.toList = some f → f.length ≠ qs.length
      · exact l7Expr_no rfl (by omega) w hh e0 hno
      · have ⟨f, hf⟩ := Classical.not_forall.1 hno
        have ⟨hf1, hf2⟩ := Classical.not_imp.1 hf
        exact l7Expr_go rfl hl hc hsz2 hA hB hps (fun i p h => ih i p h (hsz2 i p h).1 (by have := wt_part _ i p h; omega) (hsz2 i p h).2) w hk hw hh e0 hf1 (Classical.not_not.1 hf2)
end Go.Proofs.YtgogoekfidbpdaaDoor

namespace Go.Proofs.YtgogoekfidbpdaaDoor
open Go.RowKit

/-- A form's signs in the program's letters. -/
def upG (l : List Fg) : ByteArray := ⟨(l.map Fg.up).toArray⟩
theorem upG_size (l : List Fg) : (upG l).size = l.length := by simp [upG, ByteArray.size]
theorem upG_get (l : List Fg) (i : Nat) (c : Fg) (h : l[i]? = some c) (hi : i < (upG l).size) : (upG l)[i] = c.up := by
  have h1 := toList_get (upG l) i hi
  rw [Go.ByteArray.toList_eq] at h1
  simp [upG, h] at h1
  exact h1.symm
/-- What sourceForm answers. -/
def frmV (l : List UInt8) : Value := .tuple #[.string (upG ((frm l).getD [])), .bool (frm l).isSome]

set_option maxRecDepth 100000 in
set_option maxHeartbeats 1000000 in
theorem sourceForm_any (s : ByteArray) (w : World) : Calls Tryd.prog 45 #[.string s] w fun e w' => e = .returned (frmV s.toList) ∧ w = w' := by
  cases e0 : s.toList == [108, 97, 109] with
  | true =>
    have hq := hid (show frmV s.toList = frmV [108, 97, 109] by rw [eq_t e0])
    go_enter Tryd.func45, Tryd.ntmps45
    go_wp2
    go_ret2
    exact ⟨by rw [hq.out]; rfl, rfl⟩
  | false =>
    cases e1 : s.toList == [105, 102] with
    | true =>
      have hq := hid (show frmV s.toList = frmV [105, 102] by rw [eq_t e1])
      go_enter Tryd.func45, Tryd.ntmps45
      go_wp2
      go_ret2
      exact ⟨by rw [hq.out]; rfl, rfl⟩
    | false =>
      cases e2 : s.toList == [97, 112, 112] with
      | true =>
        have hq := hid (show frmV s.toList = frmV [97, 112, 112] by rw [eq_t e2])
        go_enter Tryd.func45, Tryd.ntmps45
        go_wp2
        go_ret2
        exact ⟨by rw [hq.out]; rfl, rfl⟩
      | false =>
        cases e3 : s.toList == [112, 97, 105, 114] with
        | true =>
          have hq := hid (show frmV s.toList = frmV [112, 97, 105, 114] by rw [eq_t e3])
          go_enter Tryd.func45, Tryd.ntmps45
          go_wp2
          go_ret2
          exact ⟨by rw [hq.out]; rfl, rfl⟩
        | false =>
          cases e4 : s.toList == [102, 115, 116] with
          | true =>
            have hq := hid (show frmV s.toList = frmV [102, 115, 116] by rw [eq_t e4])
            go_enter Tryd.func45, Tryd.ntmps45
            go_wp2
            go_ret2
            exact ⟨by rw [hq.out]; rfl, rfl⟩
          | false =>
            cases e5 : s.toList == [115, 110, 100] with
            | true =>
              have hq := hid (show frmV s.toList = frmV [115, 110, 100] by rw [eq_t e5])
              go_enter Tryd.func45, Tryd.ntmps45
              go_wp2
              go_ret2
              exact ⟨by rw [hq.out]; rfl, rfl⟩
            | false =>
              cases e6 : s.toList == [112, 117, 116] with
              | true =>
                have hq := hid (show frmV s.toList = frmV [112, 117, 116] by rw [eq_t e6])
                go_enter Tryd.func45, Tryd.ntmps45
                go_wp2
                go_ret2
                exact ⟨by rw [hq.out]; rfl, rfl⟩
              | false =>
                cases e7 : s.toList == [103, 101, 116] with
                | true =>
                  have hq := hid (show frmV s.toList = frmV [103, 101, 116] by rw [eq_t e7])
                  go_enter Tryd.func45, Tryd.ntmps45
                  go_wp2
                  go_ret2
                  exact ⟨by rw [hq.out]; rfl, rfl⟩
                | false =>
                  cases e8 : s.toList == [102, 97, 105, 108] with
                  | true =>
                    have hq := hid (show frmV s.toList = frmV [102, 97, 105, 108] by rw [eq_t e8])
                    go_enter Tryd.func45, Tryd.ntmps45
                    go_wp2
                    go_ret2
                    exact ⟨by rw [hq.out]; rfl, rfl⟩
                  | false =>
                    have hq := hid (show frmV s.toList = .tuple #[.string ByteArray.empty, .bool false] by simp only [beq_eq_false_iff_ne, ne_eq] at e0 e1 e2 e3 e4 e5 e6 e7 e8; simp only [frmV, frm, e0, e1, e2, e3, e4, e5, e6, e7, e8, if_false, or_self]; rfl)
                    go_enter Tryd.func45, Tryd.ntmps45
                    go_wp2
                    go_ret2
                    exact ⟨by rw [hq.out]; rfl, rfl⟩

theorem leaf7 {w : World} {e : Sx} {b : Nat} (hb : w.heap[b]? = some (.cells #[.string e.head, .string e.atom, .string ByteArray.empty, .pointer none, .slice none 0 0] 69 (0, 0))) (h1 : e.nm = ByteArray.empty) (h2 : e.ty = none) (h3 : e.kids = []) {S : Nat → Prop} (hS : S b) : XIn w S e b :=
  .mk e b (.pointer none) none 0 0 (fun _ => 0) hS (by rw [h1]; exact hb) (by rw [h2]; exact rfl) (by rw [h3]; rfl) (Nat.le_refl _) (fun i v h => by simp [ptrs] at h) (fun i k h => by rw [h3] at h; simp at h)

set_option maxRecDepth 100000 in
set_option maxHeartbeats 1000000 in
theorem sourceOfAtom_any (s : ByteArray) (hs : s.size ≤ 400000000) (w : World) : Calls Tryd.prog 44 #[.string s] w (X7Post (atomSx s) w) := by
  have HN := hid (fun W => isName_any s hs W)
  by_cases hb : s.toList = [48] ∨ s.toList = [49]
  · have HR := hid (show atomSx s = some (.bit s) by rw [atomSx, if_pos hb])
    cases e0 : s.toList == [48] with
    | true =>
      clear hb
      go_enter Tryd.func44, Tryd.ntmps44
      go_wp2
      go_ret2
      rw [HR.out]
      exact x7_some ((Below.refl _ _).alloc (Nat.le_refl _) _) (leaf7 (e := .bit s) (heap_alloc_new _ _) rfl rfl rfl (Nat.le_refl _))
    | false =>
      have e1 : (s.toList == [49]) = true := by rcases hb with h | h; (· simp [h] at e0); (· simp [h])
      clear hb
      go_enter Tryd.func44, Tryd.ntmps44
      go_wp2
      go_ret2
      rw [HR.out]
      exact x7_some ((Below.refl _ _).alloc (Nat.le_refl _) _) (leaf7 (e := .bit s) (heap_alloc_new _ _) rfl rfl rfl (Nat.le_refl _))
  · have e0 : (s.toList == [48]) = false := by simp; exact fun h => hb (Or.inl h)
    have e1 : (s.toList == [49]) = false := by simp; exact fun h => hb (Or.inr h)
    have HR := hid (show atomSx s = if nameB s.toList = true then some (.name s) else none by rw [atomSx, if_neg hb])
    clear hb
    go_enter Tryd.func44, Tryd.ntmps44
    go_wp2_with (go_at_call 59; refine (HN.out _).mono ?_; rintro e w1 ⟨rfl, hb1⟩)
    go_ret2
    rw [HR.out]
    have hbw : Below w.heap.size w w1 := ((Below.refl _ _).alloc (Nat.le_refl _) _).trans (hb1.mono (by simp))
    cases nameB s.toList with
    | true => exact x7_some hbw (leaf7 (e := .name s) (block_below (heap_alloc_new _ _) hb1 (by simp)) rfl rfl rfl (Nat.le_refl _))
    | false => exact x7_none hbw
end Go.Proofs.YtgogoekfidbpdaaDoor

namespace Go.Proofs.YtgogoekfidbpdaaDoor
open Go.RowKit

/-- What reading a part asks. -/
def Ask7 (w0 : World) (p : Tree) (h : Hd) : Prop := ∀ W, Kept w0 W → w0.heap.size ≤ W.heap.size → Calls Tryd.prog 30 #[.agg #[.string h.a, .slice h.p h.l h.c]] W (X7Post p.sx W)

set_option maxRecDepth 100000 in
set_option maxHeartbeats 2000000 in
theorem addPart_x {w0 : World} {S : Nat → Prop} {p : Tree} {h : Hd} (ht : TIn w0 S p h) (hsz : p.text.size ≤ 12000) (b : Nat) (hd : ByteArray) (st : Sst) (o : Option Sx) (w : World) (hst : B7 w b hd st) :
    Calls Tryd.prog 46 #[.pointer (some ⟨b, 0, none⟩), .int .u8 120, .agg #[.string h.a, .slice h.p h.l h.c]] w (P7Post (add7 .x p o st) b hd w) := by
  have hlt := hst.lt
  have HT := hid ht.text
  have HN := hid (fun W => isName_any h.a (by rw [HT.out]; omega) W)
  obtain ⟨pa, pp, pl, pc⟩ := h
  obtain ⟨tp, kp, kl, kc, A, H⟩ := hst
  obtain ⟨tq, rfl⟩ := H.typ.one
  have hb0 : Below w.heap.size w (w.alloc (.cells #[.string pa, .slice pp pl pc] 62)) := (Below.refl _ _).alloc (Nat.le_refl _) _
  have KC := hid (fun W (hb : Below (w.alloc (.cells #[.string pa, .slice pp pl pc] 62)).heap.size (w.alloc (.cells #[.string pa, .slice pp pl pc] 62)) W) => (show (W.cell? ⟨w.heap.size, 0, none⟩ = some (.string pa) ∧ W.cell? ⟨w.heap.size, 1, none⟩ = some (.slice pp pl pc)) ∧ B7At W b hd st (.pointer tq) kp kl kc A from by
    have e := cells_of_pair (block_below (heap_new w (.cells #[.string pa, .slice pp pl pc] 62) _ rfl) hb (by simp))
    exact ⟨⟨e.1, e.2.1⟩, (H.under hb0).under hb⟩))
  have hO : add7 .x p o st = if nameB pa.toList = true then some ⟨pa, st.ty, st.ks⟩ else none := by
    rw [add7, ← HT.out]
  obtain ⟨O, hOO⟩ : ∃ O, add7 .x p o st = O := ⟨_, rfl⟩
  rw [hOO] at hO ⊢
  have HOE := hid hO
  have k0 := cells_of_5 (KC.out _ (Below.refl _ _)).2.heap
  have HB0 := hid hb0
  clear ht hsz H hO hOO hb0
  go_enter Tryd.func46, Tryd.ntmps46
  go_wp2_with fail
  go_region_with (go_at_call 59; refine (HN.out _).mono ?_; rintro e w1 ⟨rfl, hb1⟩; have hb2 : Below (w.alloc (.cells #[.string pa, .slice pp pl pc] 62)).heap.size (w.alloc (.cells #[.string pa, .slice pp pl pc] 62)) w1 := (Below.refl _ _).drew.trans hb1; obtain ⟨⟨c1, c2⟩, hB⟩ := KC.out w1 hb2; have k1 := cells_of_5 hB.heap; have HB2 := hid hb2; have HBA := hid hB; clear hB hb1 hb2)
  all_goals
    go_wp2_with fail
    go_ret
    have hbw0 : Below w.heap.size w w1 := HB0.out.trans (HB2.out.mono (by simp))
    have hbw : Below b w (w1.setCell ⟨b, 2, none⟩ (.string pa)) := (hbw0.mono (Nat.le_of_lt hlt)).setCell (Nat.le_refl _) _
    rw [HOE.out]
    cases hnb : nameB pa.toList with
    | true => exact ⟨hbw, rfl, _, _, _, _, _, HBA.out.name pa⟩
    | false => exact ⟨hbw, rfl⟩

set_option maxRecDepth 100000 in
set_option maxHeartbeats 2000000 in
theorem addPart_s {w0 : World} {S : Nat → Prop} {p : Tree} {h : Hd} (ht : TIn w0 S p h) (hwt : p.wt ≤ 12000) (b : Nat) (hd : ByteArray) (st : Sst) (o : Option Sx) (w : World) (hst : B7 w b hd st) (hk : Kept w0 w) (hw : w0.heap.size ≤ w.heap.size) :
    Calls Tryd.prog 46 #[.pointer (some ⟨b, 0, none⟩), .int .u8 83, .agg #[.string h.a, .slice h.p h.l h.c]] w (P7Post (add7 .s p o st) b hd w) := by
  have hlt := hst.lt
  have HL := hid (fun W hk hw => limitedSourceType_any ht hwt W hk hw)
  obtain ⟨pa, pp, pl, pc⟩ := h
  obtain ⟨tp, kp, kl, kc, A, H⟩ := hst
  obtain ⟨tq, rfl⟩ := H.typ.one
  have hb0 : Below w.heap.size w (w.alloc (.cells #[.string pa, .slice pp pl pc] 62)) := (Below.refl _ _).alloc (Nat.le_refl _) _
  have KC := hid (fun W (hb : Below (w.alloc (.cells #[.string pa, .slice pp pl pc] 62)).heap.size (w.alloc (.cells #[.string pa, .slice pp pl pc] 62)) W) => (show B7At W b hd st (.pointer tq) kp kl kc A from (H.under hb0).under hb))
  have HK := hid (hk.alloc hw (.cells #[.string pa, .slice pp pl pc] 62))
  have HKL := hid (fun k e => H.kids.lt k e)
  have k0 := cells_of_5 (KC.out _ (Below.refl _ _)).heap
  have HB0 := hid hb0
  have hO : add7 .s p o st = match stLim p with | some s => some ⟨st.nm, some s, st.ks⟩ | none => none := rfl
  cases hs : stLim p with
  | none =>
    have HOE := hid (show add7 .s p o st = none by rw [hO, hs])
    obtain ⟨O, hOO⟩ : ∃ O, add7 .s p o st = O := ⟨_, rfl⟩
    rw [hOO] at HOE ⊢
    have HS := hid hs
    clear ht H hO hOO hb0 hk hs
    go_enter Tryd.func46, Tryd.ntmps46
    go_wp2_with (go_at_call 60; refine (HL.out _ HK.out (by simp; omega)).mono ?_; rintro e w1 hp; rw [HS.out] at hp; obtain ⟨rfl, hb1⟩ := hp.none; clear hp; have k1 := cells_of_5 (KC.out w1 hb1).heap; have HB1 := hid hb1; clear hb1)
    go_ret
    rw [HOE.out]
    have hbw0 : Below w.heap.size w w1 := HB0.out.trans (HB1.out.mono (by simp))
    exact ⟨(hbw0.mono (Nat.le_of_lt hlt)).setCell (Nat.le_refl _) _, rfl⟩
  | some s =>
    have HOE := hid (show add7 .s p o st = some ⟨st.nm, some s, st.ks⟩ by rw [hO, hs])
    obtain ⟨O, hOO⟩ : ∃ O, add7 .s p o st = O := ⟨_, rfl⟩
    rw [hOO] at HOE ⊢
    have HS := hid hs
    clear ht H hO hOO hb0 hk hs
    go_enter Tryd.func46, Tryd.ntmps46
    go_wp2_with (go_at_call 60; refine (HL.out _ HK.out (by simp; omega)).mono ?_; rintro e w1 hp; rw [HS.out] at hp; obtain ⟨a1, rfl, hb1, hn1⟩ := hp.some; clear hp; have k1 := cells_of_5 (KC.out w1 hb1).heap; have HB1 := hid hb1; have HN1 := hid hn1; clear hb1 hn1)
    go_ret
    rw [HOE.out]
    have hbw0 : Below w.heap.size w w1 := HB0.out.trans (HB1.out.mono (by simp))
    refine ⟨(hbw0.mono (Nat.le_of_lt hlt)).setCell (Nat.le_refl _) _, rfl, _, _, _, _, _, (KC.out w1 HB1.out).type (HN1.out.wide (fun k hk => ?_))⟩
    simp at hk
    exact ⟨by omega, fun e => by have := (HKL.out k e).2; omega⟩

set_option maxRecDepth 100000 in
set_option maxHeartbeats 4000000 in
theorem addPart_e {w0 : World} {p : Tree} {h : Hd} (ih : Ask7 w0 p h) (b : Nat) (hd : ByteArray) (st : Sst) (w : World) (hst : B7 w b hd st) (hk : Kept w0 w) (hw : w0.heap.size ≤ w.heap.size) (hkn : st.ks.length ≤ 1000) :
    Calls Tryd.prog 46 #[.pointer (some ⟨b, 0, none⟩), .int .u8 101, .agg #[.string h.a, .slice h.p h.l h.c]] w (P7Post (add7 .e p p.sx st) b hd w) := by
  have hlt := hst.lt
  obtain ⟨pa, pp, pl, pc⟩ := h
  obtain ⟨tp, kp, kl, kc, A, H⟩ := hst
  obtain ⟨tq, rfl⟩ := H.typ.one
  rw [H.hkl] at hkn
  have hb0 : Below w.heap.size w (w.alloc (.cells #[.string pa, .slice pp pl pc] 62)) := (Below.refl _ _).alloc (Nat.le_refl _) _
  have HA := hid (ih (w.alloc (.cells #[.string pa, .slice pp pl pc] 62)) (hk.alloc hw _) (by simp; omega))
  have KC := hid (fun W (hb : Below (w.alloc (.cells #[.string pa, .slice pp pl pc] 62)).heap.size (w.alloc (.cells #[.string pa, .slice pp pl pc] 62)) W) => (show B7At W b hd st (.pointer tq) kp kl kc A from (H.under hb0).under hb))
  have HKL := hid (fun k e => H.kids.lt k e)
  have k0 := cells_of_5 (KC.out _ (Below.refl _ _)).heap
  have HB0 := hid hb0
  obtain ⟨i0, hi0, hz0, hz1, hz2⟩ := info_parts Tryd.infoSrc
  cases hs : p.sx with
  | none =>
    have HOE := hid (show add7 .e p none st = none from rfl)
    obtain ⟨O, hOO⟩ : ∃ O, add7 .e p none st = O := ⟨_, rfl⟩
    rw [hOO] at HOE ⊢
    rw [hs] at HA
    clear ih H hOO hb0 hk hs
    go_enter Tryd.func46, Tryd.ntmps46
    go_wp2_with (first | (at_builtin; refine wpList_append_at _ rfl (.tmp 19) (.tmp 21) 67 rfl (b + 1) 37 i0 (.pointer none) 1 8 Tryd.underlying67 hi0 hz0 hz1 hz2 rfl (by decide) (.slice kp kl kc) kl _ rfl ((HBK.out.kids).alloc _) ⟨w1.heap.size, 0, none⟩ 1 1 [.pointer p1] rfl rfl (cells_new1 _ _ _ _ rfl) (by intro u hu; simp at hu; subst hu; rfl) (by decide) (by unfold maxLen; omega) (by omega) (by simp; omega) ?_; intro v' w2 hown2 hg2 hw2 hv2; obtain ⟨g2, kc2, rfl⟩ := hv2; have k2 := cells_of_5 (block_grown (pair_alloc5 HBK.out.heap _) hg2 (fun e => by have := (HKL.out b e).1; omega)); have HG := hid hg2; have HO := hid hown2; have HWW := hid hw2; clear hg2 hown2 hw2) | (go_at_call 30; refine HA.out.mono ?_; rintro e w1 hp; obtain ⟨p1, rfl, hb1⟩ := hp.none; clear hp; have hbk := KC.out w1 hb1; have s1 := hb1.size; simp at s1; have k1 := cells_of_5 hbk.heap; have HB1 := hid hb1; have HBK := hid hbk; clear hb1 hbk))
    go_ret
    rw [HOE.out]
    have hbw0 : Below w.heap.size w (w1.alloc (.cells #[.pointer p1] 37)) := (HB0.out.trans (HB1.out.mono (by simp))).alloc (by omega) _
    have hbw := ((hbw0.mono (show b ≤ w.heap.size by omega)).grown HG.out (by simp; omega) (fun k e => by have := (HKL.out k e).1; omega)).setCell (show b ≤ (⟨b, 4, none⟩ : Addr).block from Nat.le_refl _) (.slice (some ⟨g2, 0, none⟩) (kl + 1) kc2)
    exact ⟨hbw, rfl⟩
  | some m =>
    have HOE := hid (show add7 .e p (some m) st = some ⟨st.nm, st.ty, st.ks ++ [m]⟩ from rfl)
    obtain ⟨O, hOO⟩ : ∃ O, add7 .e p (some m) st = O := ⟨_, rfl⟩
    rw [hOO] at HOE ⊢
    rw [hs] at HA
    clear ih H hOO hb0 hk hs
    go_enter Tryd.func46, Tryd.ntmps46
    go_wp2_with (first | (at_builtin; refine wpList_append_at _ rfl (.tmp 19) (.tmp 21) 67 rfl (b + 1) 37 i0 (.pointer none) 1 8 Tryd.underlying67 hi0 hz0 hz1 hz2 rfl (by decide) (.slice kp kl kc) kl _ rfl ((HBK.out.kids).alloc _) ⟨w1.heap.size, 0, none⟩ 1 1 [.pointer (some ⟨a1, 0, none⟩)] rfl rfl (cells_new1 _ _ _ _ rfl) (by intro u hu; simp at hu; subst hu; rfl) (by decide) (by unfold maxLen; omega) (by omega) (by simp; omega) ?_; intro v' w2 hown2 hg2 hw2 hv2; obtain ⟨g2, kc2, rfl⟩ := hv2; have k2 := cells_of_5 (block_grown (pair_alloc5 HBK.out.heap _) hg2 (fun e => by have := (HKL.out b e).1; omega)); have HG := hid hg2; have HO := hid hown2; have HWW := hid hw2; clear hg2 hown2 hw2) | (go_at_call 30; refine HA.out.mono ?_; rintro e w1 hp; obtain ⟨a1, rfl, hb1, hn1⟩ := hp.some; have HN1 := hid hn1; clear hp hn1; have hbk := KC.out w1 hb1; have s1 := hb1.size; simp at s1; have k1 := cells_of_5 hbk.heap; have HB1 := hid hb1; have HBK := hid hbk; clear hb1 hbk))
    go_ret
    rw [HOE.out]
    have hbw0 : Below w.heap.size w (w1.alloc (.cells #[.pointer (some ⟨a1, 0, none⟩)] 37)) := (HB0.out.trans (HB1.out.mono (by simp))).alloc (by omega) _
    have hbw := ((hbw0.mono (show b ≤ w.heap.size by omega)).grown HG.out (by simp; omega) (fun k e => by have := (HKL.out k e).1; omega)).setCell (show b ≤ (⟨b, 4, none⟩ : Addr).block from Nat.le_refl _) (.slice (some ⟨g2, 0, none⟩) (kl + 1) kc2)
    refine ⟨hbw, rfl, _, _, _, _, _, (HBK.out.under ((Below.refl _ _).alloc (Nat.le_refl _) _)).kid ?_ HO.out HG.out HWW.out⟩
    refine HN1.out.keep (fun k hk hl => heap_alloc_old _ _ hl) (fun k hk hl => ?_)
    simp at hk
    exact ⟨by omega, fun e => by have := (HKL.out k e).2; omega⟩
end Go.Proofs.YtgogoekfidbpdaaDoor

namespace Go.Proofs.YtgogoekfidbpdaaDoor
open Go.RowKit

/-- One part, by its sign. -/
theorem addPart7_any {w0 : World} {S : Nat → Prop} {p : Tree} {h : Hd} (ht : TIn w0 S p h) (hwt : p.wt ≤ 12000) (hsz : p.text.size ≤ 12000) (ih : Ask7 w0 p h) (b : Nat) (hd : ByteArray) (st : Sst) (w : World) (hst : B7 w b hd st) (hk : Kept w0 w) (hw : w0.heap.size ≤ w.heap.size) (hkn : st.ks.length ≤ 1000) (g : Fg) :
    Calls Tryd.prog 46 #[.pointer (some ⟨b, 0, none⟩), .int .u8 (g.up.toNat : Int), .agg #[.string h.a, .slice h.p h.l h.c]] w (P7Post (add7 g p p.sx st) b hd w) := by
  cases g with
  | e => exact addPart_e ih b hd st w hst hk hw hkn
  | x => exact addPart_x ht hsz b hd st p.sx w hst
  | s => exact addPart_s ht hwt b hd st p.sx w hst hk hw
theorem add7_len {g : Fg} {p : Tree} {o : Option Sx} {st st' : Sst} (h : add7 g p o st = some st') : st'.ks.length ≤ st.ks.length + 1 := by
  cases g with
  | e => obtain ⟨_, _, e⟩ := add7_e h; rw [e]; simp
  | x => obtain ⟨_, e⟩ := add7_x h; rw [e]; simp
  | s => obtain ⟨_, _, _, e⟩ := add7_s h; rw [e]; simp

set_option maxRecDepth 100000 in
set_option maxHeartbeats 1000000 in
theorem source_atom (w0 : World) (s : ByteArray) (hm : s.size ≤ 400000000) : Ask7 w0 (.atom s) ⟨s, none, 0, 0⟩ := by
  intro w hk hw
  have HA := hid (fun W => sourceOfAtom_any s hm W)
  rw [Tree.sx]
  obtain ⟨O, hO⟩ : ∃ O, atomSx s = O := ⟨_, rfl⟩
  rw [hO] at HA ⊢
  clear hO hk
  cases O with
  | none =>
    go_enter Tryd.func30, Tryd.ntmps30
    go_wp2_with (go_at_call 44; refine (HA.out _).mono ?_; rintro e w1 hp; obtain ⟨p1, rfl, hb1⟩ := hp.none; clear hp)
    go_ret2
    exact x7_none (((Below.refl _ _).alloc (Nat.le_refl _) _).trans (hb1.mono (by simp)))
  | some m =>
    go_enter Tryd.func30, Tryd.ntmps30
    go_wp2_with (go_at_call 44; refine (HA.out _).mono ?_; rintro e w1 hp; obtain ⟨a, rfl, hb1, hn1⟩ := hp.some; have HN1 := hid hn1; clear hp hn1)
    go_ret2
    exact x7_some (((Below.refl _ _).alloc (Nat.le_refl _) _).trans (hb1.mono (by simp))) (HN1.out.wide (fun k hk => by simp at hk; omega))

set_option maxRecDepth 100000 in
set_option maxHeartbeats 2000000 in
theorem source_no {w0 : World} {q : Tree} {qs : List Tree} {b cap n : Nat} {A : Nat → Hd} (hn : qs.length = n) (hl : n + 1 ≤ cap) (hc : cap ≤ maxLen) (hn2 : n ≤ 12000) (hq : (A 0).a = q.text) (c0 : w0.cell? ⟨b, 0, none⟩ = some (.string (A 0).a)) (w : World) (hk : Kept w0 w)
    (hno : ∀ f, frm q.text.toList = some f → f.length ≠ qs.length) :
    Calls Tryd.prog 30 #[.agg #[.string ByteArray.empty, .slice (some ⟨b, 0, none⟩) (n + 1) cap]] w (X7Post (Tree.node (q :: qs)).sx w) := by
  have HR := hid (show (Tree.node (q :: qs)).sx = none by
    cases hf : frm q.text.toList with
    | none => rw [sx_none hf]
    | some f => rw [sx_some hf, addL_bad (hno f hf)]; rfl)
  rw [HR.out]
  have c1 := hk.cell c0
  rw [hq] at c1
  have c2 : ∀ o, (w.alloc o).cell? ⟨b, 0, none⟩ = some (.string q.text) := fun o => (World.cell?_of_block (w := w) (heap_alloc_old w o (World.block_lt_of_cell? w _ c1))).trans c1
  have d0 : ((n : Int) + 1 == 0) = false := beq_eq_false_iff_ne.2 (by omega)
  unfold maxLen at hc
  clear hk c0 hq
  cases hf : frm q.text.toList with
  | none =>
    have HF := hid (fun W => (show Calls Tryd.prog 45 #[.string q.text] W fun e w' => e = .returned (.tuple #[.string ByteArray.empty, .bool false]) ∧ W = w' from by
      have := sourceForm_any q.text W
      rw [frmV, hf] at this; exact this))
    clear hno hf HR hn
    by_cases hcap : cap = 1
    · obtain rfl : n = 0 := by omega
      subst hcap
      go_enter Tryd.func30, Tryd.ntmps30
      go_wp2_with (go_at_call 45; refine (HF.out _).mono ?_; rintro e w2 ⟨rfl, rfl⟩)
      go_ret2
      exact x7_none (((Below.refl _ _).alloc (Nat.le_refl _) _).alloc (by simp) _)
    · go_enter Tryd.func30, Tryd.ntmps30
      go_wp2_with (go_at_call 45; refine (HF.out _).mono ?_; rintro e w2 ⟨rfl, rfl⟩)
      go_ret2
      exact x7_none (((Below.refl _ _).alloc (Nat.le_refl _) _).alloc (by simp) _)
  | some f =>
    have HF := hid (fun W => (show Calls Tryd.prog 45 #[.string q.text] W fun e w' => e = .returned (.tuple #[.string (upG f), .bool true]) ∧ W = w' from by
      have := sourceForm_any q.text W
      rw [frmV, hf] at this; exact this))
    have hsz := upG_size f
    have hne := hno f hf
    rw [hn] at hne
    have hf3 := frm_len hf
    obtain ⟨F, hF⟩ : ∃ F, upG f = F := ⟨_, rfl⟩
    rw [hF] at HF hsz
    have f2 : ((F.size : Int) != (n : Int)) = true := bne_iff_ne.2 (by omega)
    have f3 : F.size ≤ 3 := by omega
    clear hno hf HR hn hF hsz hne hf3
    by_cases hcap : cap = 1
    · obtain rfl : n = 0 := by omega
      subst hcap
      go_enter Tryd.func30, Tryd.ntmps30
      go_wp2_with (go_at_call 45; refine (HF.out _).mono ?_; rintro e w2 ⟨rfl, rfl⟩)
      go_ret2
      exact x7_none (((Below.refl _ _).alloc (Nat.le_refl _) _).alloc (by simp) _)
    · go_enter Tryd.func30, Tryd.ntmps30
      go_wp2_with (go_at_call 45; refine (HF.out _).mono ?_; rintro e w2 ⟨rfl, rfl⟩)
      go_ret2
      exact x7_none (((Below.refl _ _).alloc (Nat.le_refl _) _).alloc (by simp) _)

set_option maxRecDepth 100000 in
set_option maxHeartbeats 2000000 in
theorem source_nil {w0 : World} {q : Tree} {b cap : Nat} {A : Nat → Hd} (hl : 1 ≤ cap) (hc : cap ≤ maxLen) (hq : (A 0).a = q.text) (c0 : w0.cell? ⟨b, 0, none⟩ = some (.string (A 0).a)) (w : World) (hk : Kept w0 w)
    (hf : frm q.text.toList = some []) :
    Calls Tryd.prog 30 #[.agg #[.string ByteArray.empty, .slice (some ⟨b, 0, none⟩) 1 cap]] w (X7Post (Tree.node [q]).sx w) := by
  have hg := frm_nil hf
  have HR := hid (show (Tree.node [q]).sx = some .get by
    rw [sx_some hf, hg]; rfl)
  rw [HR.out]
  have c1 := hk.cell c0
  rw [hq] at c1
  have c2 : ∀ o, (w.alloc o).cell? ⟨b, 0, none⟩ = some (.string q.text) := fun o => (World.cell?_of_block (w := w) (heap_alloc_old w o (World.block_lt_of_cell? w _ c1))).trans c1
  unfold maxLen at hc
  have HF := hid (fun W => (show Calls Tryd.prog 45 #[.string q.text] W fun e w' => e = .returned (.tuple #[.string ByteArray.empty, .bool true]) ∧ W = w' from by
    have := sourceForm_any q.text W
    rw [frmV, hf] at this; exact this))
  have HD := hid (show ∀ (w : World) o, XIn ((w.alloc o).alloc (.cells #[.string q.text, .string ByteArray.empty, .string ByteArray.empty, .pointer none, .slice none 0 0] 69)) (fun k => w.heap.size ≤ k) .get (w.heap.size + 1) from fun w o => by
    have := (B7At.start (w.alloc o) q.text (w.heap.size + 1) (by simp)).done (e := .get) (by rw [hg, show Sx.get.head = hGet from rfl, hGet_l]) rfl rfl rfl rfl
    exact this.wide (fun k hk => by omega))
  clear hk c0 hq hf HR hg
  by_cases hcap : cap = 1
  · subst hcap
    go_enter Tryd.func30, Tryd.ntmps30
    go_wp2_with (go_at_call 45; refine (HF.out _).mono ?_; rintro e w2 ⟨rfl, rfl⟩)
    refine wp_loop_rounds 1 ?_
    rw [rounds_succ]
    go_wp2_with fail
    go_ret2
    exact x7_some (((Below.refl _ _).alloc (Nat.le_refl _) _).alloc (by simp) _) (HD.out w _)
  · go_enter Tryd.func30, Tryd.ntmps30
    go_wp2_with (go_at_call 45; refine (HF.out _).mono ?_; rintro e w2 ⟨rfl, rfl⟩)
    refine wp_loop_rounds 1 ?_
    rw [rounds_succ]
    go_wp2_with fail
    go_ret2
    exact x7_some (((Below.refl _ _).alloc (Nat.le_refl _) _).alloc (by simp) _) (HD.out w _)

set_option maxRecDepth 100000 in
set_option maxHeartbeats 8000000 in
theorem source_go {w0 : World} {S : Nat → Prop} {q : Tree} {qs : List Tree} {b cap n : Nat} {A : Nat → Hd} {f : List Fg} (hn : qs.length = n) (hn0 : n ≠ 0) (hl : n + 1 ≤ cap) (_hc : cap ≤ maxLen) (hq : (A 0).a = q.text)
    (hsz : ∀ (i : Nat) (p : Tree), (q :: qs)[i]? = some p → p.wt ≤ 12000 ∧ p.text.size ≤ 12000)
    (hA : ∀ i, i < n + 1 → w0.cell? ⟨b, i * 2, none⟩ = some (.string (A i).a)) (hB : ∀ i, i < n + 1 → w0.cell? ⟨b, i * 2 + 1, none⟩ = some (.slice (A i).p (A i).l (A i).c))
    (hps : ∀ (i : Nat) (p : Tree), (q :: qs)[i]? = some p → TIn w0 S p (A i)) (ih : ∀ (i : Nat) (p : Tree), (q :: qs)[i]? = some p → Ask7 w0 p (A i))
    (w : World) (hk : Kept w0 w) (hw : w0.heap.size ≤ w.heap.size) (hf : frm q.text.toList = some f) (hfl : f.length = qs.length) :
    Calls Tryd.prog 30 #[.agg #[.string ByteArray.empty, .slice (some ⟨b, 0, none⟩) (n + 1) cap]] w (X7Post (Tree.node (q :: qs)).sx w) := by
  obtain ⟨R, hR⟩ : ∃ R, addL f qs (qs.map Tree.sx) Sst.none = R := ⟨_, rfl⟩
  have HOK := hid (fun st (h : R = some st) => mkSx_ok hf (hR.trans h))
  rw [sx_go hf hR]
  have hn3 : n ≤ 3 := by rw [← hn, ← hfl]; exact frm_len hf
  have hcap : ¬ cap = 1 := by omega
  have c1 : w.cell? ⟨b, 0, none⟩ = some (.string q.text) := by have := hk.cell (hA 0 (by omega)); rw [hq] at this; simpa using this
  have c2 : ∀ o, (w.alloc o).cell? ⟨b, 0, none⟩ = some (.string q.text) := fun o => (World.cell?_of_block (w := w) (heap_alloc_old w o (World.block_lt_of_cell? w _ c1))).trans c1
  have HF := hid (fun W => (show Calls Tryd.prog 45 #[.string q.text] W fun e w' => e = .returned (.tuple #[.string (upG f), .bool true]) ∧ W = w' from by
    have := sourceForm_any q.text W
    rw [frmV, hf] at this; exact this))
  have hFs := upG_size f
  have HFG := hid (fun i c h hi => upG_get f i c h hi)
  obtain ⟨F, hF⟩ : ∃ F, upG f = F := ⟨_, rfl⟩
  rw [hF] at HF hFs HFG
  rw [hfl, hn] at hFs
  have f2 : ((F.size : Int) != (n : Int)) = false := by simp [hFs]
  have f3 : F.size ≤ 3 := by omega
  have d0 : ((n : Int) + 1 == 0) = false := beq_eq_false_iff_ne.2 (by omega)
  have HFS := hid hFs
  have HR := hid hR
  have HN := hid hn
  have HFL := hid hfl
  have HA := hid hA
  have HB := hid hB
  have HPS := hid hps
  have HIH := hid ih
  have HSZ := hid hsz
  have HK := hid hk
  have hFle : n ≤ F.size := by omega
  clear hA hB hps ih hsz hk hR hn hfl hq hFs hF c1 hf
  go_enter Tryd.func30, Tryd.ntmps30
  go_wp2_with (go_at_call 45; refine (HF.out _).mono ?_; rintro e w2 ⟨rfl, rfl⟩)
  go_loopw [48] (fun u wr => ∃ (i : Nat) (st : Sst), i ≤ n ∧ u = .int .i64 (i : Int) ∧ B7 wr (w.heap.size + 1) q.text st ∧ Below w.heap.size w wr ∧ w.heap.size + 2 ≤ wr.heap.size ∧ Hid (addL (f.drop i) (qs.drop i) ((qs.map Tree.sx).drop i) st = R) ∧ st.ks.length ≤ i) (fun u _ => n - (intOf u).toNat)
  case atStart =>
    refine ⟨0, Sst.none, Nat.zero_le _, rfl, ?_, ((Below.refl _ _).alloc (Nat.le_refl _) _).alloc (by simp) _, by simp, by show _ = _; rw [List.drop_zero, List.drop_zero, List.drop_zero]; exact HR.out, by simp [Sst.none]⟩
    exact ⟨_, _, _, _, _, B7At.start (w.alloc (.cells #[.string ByteArray.empty, .slice (some ⟨b, 0, none⟩) (n + 1) cap] 62)) q.text (w.heap.size + 1) (by simp)⟩
  case round =>
    obtain ⟨i, st, hi, rfl, hbld, hbel, hz, hparts, hlen2⟩ := hrel
    by_cases hlt : i < n
    · obtain ⟨p, hp⟩ : ∃ p, qs[i]? = some p := ⟨_, List.getElem?_eq_getElem (by rw [HN.out]; exact hlt)⟩
      obtain ⟨g, hcc⟩ : ∃ g, f[i]? = some g := ⟨_, List.getElem?_eq_getElem (by rw [HFL.out, HN.out]; exact hlt)⟩
      have hiF : i < F.size := by omega
      have hFc := HFG.out i g hcc hiF
      have kw : Kept w0 wr := HK.out.below hbel hw
      have hwr : w0.heap.size ≤ wr.heap.size := by omega
      have ca : wr.cell? ⟨b, 2 + i * 2, none⟩ = some (.string (A (i + 1)).a) := by
        have := kw.cell (HA.out (i + 1) (by omega)); rwa [show (i + 1) * 2 = 2 + i * 2 by omega] at this
      have cb : wr.cell? ⟨b, 2 + i * 2 + 1, none⟩ = some (.slice (A (i + 1)).p (A (i + 1)).l (A (i + 1)).c) := by
        have := kw.cell (HB.out (i + 1) (by omega)); rwa [show (i + 1) * 2 = 2 + i * 2 by omega] at this
      have hpt : (q :: qs)[i + 1]? = some p := by simpa using hp
      have HC := hid (fun W (hb : B7 W (w.heap.size + 1) q.text st) (hk : Kept w0 W) (hs : w0.heap.size ≤ W.heap.size) => by
        have := addPart7_any (HPS.out (i + 1) p hpt) (HSZ.out (i + 1) p hpt).1 (HSZ.out (i + 1) p hpt).2 (HIH.out (i + 1) p hpt) (w.heap.size + 1) q.text st W hb hk hs (by omega) g
        rw [← hFc] at this
        exact this)
      have hstep : addL (f.drop i) (qs.drop i) ((qs.map Tree.sx).drop i) st = match add7 g p p.sx st with
          | some st' => addL (f.drop (i + 1)) (qs.drop (i + 1)) ((qs.map Tree.sx).drop (i + 1)) st'
          | none => none := by
        have e1 := List.getElem?_eq_some_iff.1 hp
        have e2 := List.getElem?_eq_some_iff.1 hcc
        have e3 : (qs.map Tree.sx)[i]? = some p.sx := by rw [List.getElem?_map, hp]; rfl
        have e4 := List.getElem?_eq_some_iff.1 e3
        rw [List.drop_eq_getElem_cons e1.1, List.drop_eq_getElem_cons e2.1, List.drop_eq_getElem_cons e4.1, e1.2, e2.2, e4.2, addL_cons]
        cases add7 g p p.sx st <;> rfl
      rw [hparts.out] at hstep
      have HB2 := hid (fun o => (hbld.under ((Below.refl wr.heap.size wr).alloc (Nat.le_refl _) o).drew))
      have HK2 := hid (fun o => kw.below ((Below.refl wr.heap.size wr).alloc (Nat.le_refl _) o).drew hwr)
      have HBE := hid hbel
      cases hO : add7 g p p.sx st with
      | none =>
        rw [hO] at hstep HC
        have HRN := hid (show R = none from hstep)
        clear hstep hparts hbld hbel kw hp hcc hFc hpt hO
        go_wp2_with fail
        go_region_with (go_at_call 46; refine (HC.out _ (show B7 (wr.alloc _).drew _ _ _ from HB2.out _) (show Kept w0 (wr.alloc _).drew from HK2.out _) (show w0.heap.size ≤ (wr.alloc _).drew.heap.size by simp; omega)).mono ?_; rintro e w2 hp2; obtain ⟨rfl, hb2⟩ := hp2.none; have HBL := hid hb2; clear hp2 hb2)
        all_goals
          go_wp2_with fail
          go_ret2
          rw [HRN.out]
          exact x7_none ((HBE.out.alloc (by omega) _).drew.trans (HBL.out.mono (by omega)))
      | some st' =>
        rw [hO] at hstep HC
        have HRS := hid hstep.symm
        have hal := add7_len hO
        clear hstep hparts hbld hbel kw hp hcc hFc hpt hO
        go_wp2_with fail
        go_region_with (go_at_call 46; refine (HC.out _ (show B7 (wr.alloc _).drew _ _ _ from HB2.out _) (show Kept w0 (wr.alloc _).drew from HK2.out _) (show w0.heap.size ≤ (wr.alloc _).drew.heap.size by simp; omega)).mono ?_; rintro e w2 hp2; obtain ⟨rfl, hb2, hbl2⟩ := hp2.some; have HBL := hid hb2; have HBN := hid hbl2; clear hp2 hb2 hbl2)
        all_goals
          go_wp2_with fail
          go_roundw
          case rel =>
            have hz2 := HBL.out.size
            simp at hz2
            exact ⟨i + 1, st', by omega, by go_num, HBN.out, (HBE.out.alloc (by omega) _).drew.trans (HBL.out.mono (by omega)), by omega, HRS, by omega⟩
          case measure => simp [intOf]; omega
    · have hin : i = n := by omega
      have hRe : R = some st := by
        rw [← hparts.out, hin, List.drop_of_length_le (by rw [HFL.out, HN.out]; exact Nat.le_refl _), List.drop_of_length_le (by rw [HN.out]; exact Nat.le_refl _), List.drop_of_length_le (by rw [List.length_map, HN.out]; exact Nat.le_refl _)]
        rfl
      have HRE := hid hRe
      have HBD := hid hbld
      have HBE := hid hbel
      clear hin hRe hparts hbld hbel
      go_wp2_with fail
      go_ret2
      obtain ⟨e, h0, h1, h2, h3, h4, h5⟩ := HOK.out st HRE.out
      rw [HRE.out, Option.bind_some, h0]
      exact x7_some HBE.out (HBD.out.done (by omega) h1 h2 h3 h4 h5)

/-- THE PROGRAM's READING OF A PHRASE AS A SOURCE EXPRESSION. -/
theorem sourceOf_any {w0 : World} {S : Nat → Prop} {t : Tree} {h : Hd} (ht : TIn w0 S t h) : t.wt ≤ 12000 → t.write.length ≤ 12000 → Ask7 w0 t h := by
  induction ht with
  | atom s hne hm => intro _ hwl; exact source_atom w0 s (by have : s.size ≤ 12000 := Nat.le_trans (text_le (.atom s)) hwl; omega)
  | node ps b cap A hp hl hc hS hA hB hps ih =>
    intro hwt hwl w hk hw
    obtain ⟨q, qs, rfl⟩ : ∃ q qs, ps = q :: qs := by cases ps with | nil => simp at hp | cons q qs => exact ⟨q, qs, rfl⟩
    rw [Tree.wt] at hwt
    have hq := (hps 0 q rfl).text
    have hlen := wts_length (q :: qs)
    simp only [List.length_cons] at hl hA hB hlen
    have c0 : _ := hA 0 (by omega)
    have hsz2 : ∀ (i : Nat) (p : Tree), (q :: qs)[i]? = some p → p.wt ≤ 12000 ∧ p.write.length ≤ 12000 := fun i p h => ⟨by have := wt_part _ i p h; omega, Nat.le_trans (part_le h) hwl⟩
    by_cases hno : ∀ f, frm q.text.toList = some f → f.length ≠ qs.length
    · exact source_no rfl hl hc (by omega) hq (by simpa using c0) w hk hno
    · have ⟨f, hf⟩ := Classical.not_forall.1 hno
      have ⟨hf1, hf2⟩ := Classical.not_imp.1 hf
      have hfl := Classical.not_not.1 hf2
      by_cases hn0 : qs.length = 0
      · have hqs : qs = [] := List.eq_nil_of_length_eq_zero hn0
        subst hqs
        have hf0 : f = [] := List.eq_nil_of_length_eq_zero hfl
        subst hf0
        exact source_nil hl hc hq (by simpa using c0) w hk hf1
      · exact source_go rfl hn0 hl hc hq (fun i p h => ⟨(hsz2 i p h).1, Nat.le_trans (text_le p) (hsz2 i p h).2⟩) hA hB hps (fun i p h => ih i p h (hsz2 i p h).1 (hsz2 i p h).2) w hk hw hf1 hfl
end Go.Proofs.YtgogoekfidbpdaaDoor

namespace Go.Proofs.YtgogoekfidbpdaaDoor
open Go.RowKit

set_option maxRecDepth 100000 in
set_option maxHeartbeats 4000000 in
theorem readSource_any (s : ByteArray) (hs : s.size ≤ 400000000) (w : World) : Calls Tryd.prog 12 #[.string s] w (X7Post (readSx s) w) := by
  have HC := hid (fun W => readPhrase_any s hs W)
  cases hp : parse s with
  | none =>
    have HP := hid hp
    have HR := hid (show readSx s = none by rw [readSx, hp])
    clear hp
    go_enter Tryd.func12, Tryd.ntmps12
    go_wp2_with (go_at_call 28; refine (HC.out _).mono ?_; rintro e w1 hp; rw [HP.out] at hp; obtain ⟨pa, pp, pl, pc, rfl, hpl, hb1⟩ := hp.none; clear hp)
    go_ret2
    rw [HR.out]
    exact x7_none (hb1.alloc hb1.size _)
  | some t =>
    have hwt := parse_wt hp
    have hwl := parse_small hp
    have hsz : t.size ≤ 12000 := Nat.le_trans (size_le_wt t) hwt
    have HP := hid hp
    have hR : readSx s = if t.size ≤ 150 then t.sx else none := by rw [readSx, hp]
    clear hp
    by_cases h150 : t.size ≤ 150
    · rw [if_pos h150] at hR
      cases hx : t.sx with
      | none =>
        have HR := hid (hR.trans hx)
        have HT := hid hx
        clear hx hR
        go_enter Tryd.func12, Tryd.ntmps12
        go_wp2_with (first | (go_at_call 28; refine (HC.out _).mono ?_; rintro e w1 hp; rw [HP.out] at hp; obtain ⟨pa, pp, pl, pc, rfl, hb1, ht⟩ := hp.some; clear hp; have HD := hid (fun W hk hs => atoms_any ht hsz W hk hs); have HE := hid (sourceOf_any ht hwt hwl); clear ht) | (go_at_call 29; refine (HD.out _ ((Kept.refl _).alloc (Nat.le_refl _) _) (by simp)).mono ?_; rintro e w2 ⟨rfl, hb2⟩; have k2 := cells_of_pair (block_below (heap_new w1 (.cells #[.string pa, .slice pp pl pc] 62) _ rfl) hb2 (by simp)); have s2 := hb2.size; simp at s2; have HK2 := hid (((Kept.refl w1).alloc (Nat.le_refl _) _).below hb2 (by simp))) | (go_at_call 30; refine (HE.out _ HK2.out (by omega)).mono ?_; rintro e w3 hp; rw [HT.out] at hp; obtain ⟨p1, rfl, hb3⟩ := hp.none; clear hp))
        go_ret2
        rw [HR.out]
        have s1 := hb1.size
        have hbw : Below w.heap.size w w3 := hb1.trans ((((Below.refl _ _).alloc (Nat.le_refl _) _).trans ((hb2.mono (by simp)).trans (hb3.mono (by omega)))).mono hb1.size)
        exact x7_none hbw
      | some m =>
        have HR := hid (hR.trans hx)
        have HT := hid hx
        clear hx hR
        go_enter Tryd.func12, Tryd.ntmps12
        go_wp2_with (first | (go_at_call 28; refine (HC.out _).mono ?_; rintro e w1 hp; rw [HP.out] at hp; obtain ⟨pa, pp, pl, pc, rfl, hb1, ht⟩ := hp.some; clear hp; have HD := hid (fun W hk hs => atoms_any ht hsz W hk hs); have HE := hid (sourceOf_any ht hwt hwl); clear ht) | (go_at_call 29; refine (HD.out _ ((Kept.refl _).alloc (Nat.le_refl _) _) (by simp)).mono ?_; rintro e w2 ⟨rfl, hb2⟩; have k2 := cells_of_pair (block_below (heap_new w1 (.cells #[.string pa, .slice pp pl pc] 62) _ rfl) hb2 (by simp)); have s2 := hb2.size; simp at s2; have HK2 := hid (((Kept.refl w1).alloc (Nat.le_refl _) _).below hb2 (by simp))) | (go_at_call 30; refine (HE.out _ HK2.out (by omega)).mono ?_; rintro e w3 hp; rw [HT.out] at hp; obtain ⟨a1, rfl, hb3, hn1⟩ := hp.some; clear hp))
        go_ret2
        rw [HR.out]
        have s1 := hb1.size
        have hbw : Below w.heap.size w w3 := hb1.trans ((((Below.refl _ _).alloc (Nat.le_refl _) _).trans ((hb2.mono (by simp)).trans (hb3.mono (by omega)))).mono hb1.size)
        exact x7_some hbw (hn1.wide (fun k hk => by omega))
    · rw [if_neg h150] at hR
      have HR := hid hR
      have h151 : 150 < t.size := by omega
      clear h150 hR
      go_enter Tryd.func12, Tryd.ntmps12
      go_wp2_with (first | (go_at_call 28; refine (HC.out _).mono ?_; rintro e w1 hp; rw [HP.out] at hp; obtain ⟨pa, pp, pl, pc, rfl, hb1, ht⟩ := hp.some; clear hp; have HD := hid (fun W hk hs => atoms_any ht hsz W hk hs); have HE := hid (sourceOf_any ht hwt hwl); clear ht) | (go_at_call 29; refine (HD.out _ ((Kept.refl _).alloc (Nat.le_refl _) _) (by simp)).mono ?_; rintro e w2 ⟨rfl, hb2⟩; have k2 := cells_of_pair (block_below (heap_new w1 (.cells #[.string pa, .slice pp pl pc] 62) _ rfl) hb2 (by simp)); have s2 := hb2.size; simp at s2; have HK2 := hid (((Kept.refl w1).alloc (Nat.le_refl _) _).below hb2 (by simp))))
      go_ret2
      rw [HR.out]
      exact x7_none (hb1.trans ((((Below.refl _ _).alloc (Nat.le_refl _) _).trans (hb2.mono (by simp))).mono hb1.size))
end Go.Proofs.YtgogoekfidbpdaaDoor

namespace Go.Proofs.YtgogoekfidbpdaaDoor
open Go.RowKit

theorem results_tmp3 {fn : Func} {t u v : Tmp} (h : fn.results = #[.tmp t, .tmp u, .tmp v]) (tmps : Array Value) (P : Program) (w : World) :
    (results fn tmps).run P w = .ok (.tuple #[tmps.getD t undef, tmps.getD u undef, tmps.getD v undef]) w := by
  simp [results, h]
/-- An expression that has a type, and its type. -/
def stE (s : ByteArray) : Option (Sx × STy) := match readSx s with
  | some e => (e.typ []).map fun t => (e, t)
  | none => none
/-- What SourceType prints. -/
def stT (s : ByteArray) : Option ByteArray := (stE s).map fun x => x.2.tree.txt
def RtPost (o : Option (Sx × STy)) (w : World) (e : Ending) (w' : World) : Prop :=
  Below w.heap.size w w' ∧ match o with
    | some x => ∃ a b : Nat, e = .returned (.tuple #[.pointer (some ⟨a, 0, none⟩), .pointer (some ⟨b, 0, none⟩), .bool true]) ∧ XIn w' (fun _ => True) x.1 a ∧ SIn w' (fun _ => True) x.2 b
    | none => ∃ p q, e = .returned (.tuple #[.pointer p, .pointer q, .bool false])
theorem RtPost.none {w w' : World} {e : Ending} (h : RtPost Option.none w e w') : ∃ p q, e = .returned (.tuple #[.pointer p, .pointer q, .bool false]) ∧ Below w.heap.size w w' := let ⟨hb, p, q, he⟩ := h; ⟨p, q, he, hb⟩
theorem RtPost.some {w w' : World} {e : Ending} {x : Sx × STy} (h : RtPost (Option.some x) w e w') : ∃ a b : Nat, e = .returned (.tuple #[.pointer (Option.some ⟨a, 0, Option.none⟩), .pointer (Option.some ⟨b, 0, Option.none⟩), .bool true]) ∧ Below w.heap.size w w' ∧ XIn w' (fun _ => True) x.1 a ∧ SIn w' (fun _ => True) x.2 b :=
  let ⟨hb, a, b, he, h1, h2⟩ := h; ⟨a, b, he, hb, h1, h2⟩
theorem rt_none {w w' : World} {p q : Option Addr} (h : Below w.heap.size w w') : RtPost none w (.returned (.tuple #[.pointer p, .pointer q, .bool false])) w' := ⟨h, p, q, rfl⟩
theorem stE_n {s : ByteArray} {x : Sx × STy} (h : stE s = some x) : readSx s = some x.1 ∧ x.1.typ [] = some x.2 ∧ x.2.n ≤ 12 := by
  rw [stE] at h
  cases hr : readSx s with
  | none => rw [hr] at h; simp at h
  | some e =>
    rw [hr] at h
    simp only at h
    cases ht : e.typ [] with
    | none => rw [ht] at h; simp at h
    | some t =>
      rw [ht] at h
      simp at h; subst h
      exact ⟨rfl, ht, typ_n ht⟩

set_option maxRecDepth 100000 in
set_option maxHeartbeats 2000000 in
theorem readTyped_any (s : ByteArray) (hs : s.size ≤ 400000000) (w : World) : Calls Tryd.prog 17 #[.string s] w (RtPost (stE s) w) := by
  have HC := hid (fun W => readSource_any s hs W)
  cases hr : readSx s with
  | none =>
    have HR := hid hr
    have HX := hid (show stE s = none by rw [stE, hr])
    clear hr
    go_enter Tryd.func17, Tryd.ntmps17
    go_wp2_with (go_at_call 12; refine (HC.out _).mono ?_; rintro e w1 hp; rw [HR.out] at hp; obtain ⟨p1, rfl, hb1⟩ := hp.none; clear hp)
    ((try simp only [Exit.inBlock, Exit.then]); refine bodyPost_ret (results_tmp3 rfl _ _ _) rfl ?_)
    rw [HX.out]
    exact rt_none hb1
  | some m =>
    have HR := hid hr
    have han : m.an := sx_an (readSx_inv hr).2.2
    have hx : stE s = (m.typ []).map fun t => (m, t) := by rw [stE, hr]
    clear hr
    cases ht : m.typ [] with
    | none =>
      rw [ht] at hx
      have HX := hid (show stE s = none from hx)
      have HT := hid ht
      clear ht hx
      go_enter Tryd.func17, Tryd.ntmps17
      go_wp2_with (first | (go_at_call 40; refine HD.out.mono ?_; rintro e w2 hp; rw [HT.out] at hp; obtain ⟨p2, rfl, hb2⟩ := hp.none; clear hp) | (go_at_call 12; refine (HC.out _).mono ?_; rintro e w1 hp; rw [HR.out] at hp; obtain ⟨a1, rfl, hb1, hn1⟩ := hp.some; clear hp; have HD := hid (typeIn_any hn1 han [] none w1 (Kept.refl _) (Nat.le_refl _) (by simp) rfl); clear hn1))
      ((try simp only [Exit.inBlock, Exit.then]); refine bodyPost_ret (results_tmp3 rfl _ _ _) rfl ?_)
      rw [HX.out]
      exact rt_none (hb1.trans (hb2.mono hb1.size))
    | some t =>
      rw [ht] at hx
      have HX := hid (show stE s = some (m, t) from hx)
      have HT := hid ht
      clear ht hx
      go_enter Tryd.func17, Tryd.ntmps17
      go_wp2_with (first | (go_at_call 40; refine HD.out.mono ?_; rintro e w2 hp; rw [HT.out] at hp; obtain ⟨a2, rfl, hb2, hn2⟩ := hp.some; have HN2 := hid hn2; clear hp hn2) | (go_at_call 12; refine (HC.out _).mono ?_; rintro e w1 hp; rw [HR.out] at hp; obtain ⟨a1, rfl, hb1, hn1⟩ := hp.some; clear hp; have HD := hid (typeIn_any hn1 han [] none w1 (Kept.refl _) (Nat.le_refl _) (by simp) rfl); have HN1 := hid hn1; clear hn1))
      ((try simp only [Exit.inBlock, Exit.then]); refine bodyPost_ret (results_tmp3 rfl _ _ _) rfl ?_)
      rw [HX.out]
      exact ⟨hb1.trans (hb2.mono hb1.size), a1, a2, rfl, (HN1.out.kept (Kept.of_below hb2 (Nat.le_refl _))).wide (fun _ _ => trivial), HN2.out⟩

end Go.Proofs.YtgogoekfidbpdaaDoor

namespace Go.Proofs.YtgogoekfidbpdaaDoor
open Go.RowKit

set_option maxRecDepth 100000 in
set_option maxHeartbeats 2000000 in
theorem implSourceType_any (s : ByteArray) (hs : s.size ≤ 400000000) (w : World) : Calls Tryd.prog 8 #[.string s] w (TxPost (stT s) w) := by
  have HC := hid (fun W => readTyped_any s hs W)
  cases hr : stE s with
  | none =>
    have HR := hid hr
    have HX := hid (show stT s = none by rw [stT, hr]; rfl)
    clear hr
    go_enter Tryd.func8, Tryd.ntmps8
    go_wp2_with (go_at_call 17; refine (HC.out _).mono ?_; rintro e w1 hp; rw [HR.out] at hp; obtain ⟨p1, q1, rfl, hb1⟩ := hp.none; clear hp)
    go_ret2
    rw [HX.out]
    exact txPost_none hb1
  | some x =>
    have HR := hid hr
    have hn := (stE_n hr).2.2
    have HX := hid (show stT s = some x.2.tree.txt by rw [stT, hr]; rfl)
    clear hr
    go_enter Tryd.func8, Tryd.ntmps8
    go_wp2_with (first | (go_at_call 18; refine (HN1.out).mono ?_; rintro e w2 ⟨rfl, hb2⟩) | (go_at_call 17; refine (HC.out _).mono ?_; rintro e w1 hp; rw [HR.out] at hp; obtain ⟨a1, b1, rfl, hb1, hx1, hn1⟩ := hp.some; have HN1 := hid (srcText_any hn1 (by omega) w1 (Kept.refl _) (Nat.le_refl _)); clear hp hx1 hn1))
    go_ret2
    rw [HX.out]
    exact ⟨rfl, hb1.trans (hb2.mono hb1.size)⟩
end Go.Proofs.YtgogoekfidbpdaaDoor
