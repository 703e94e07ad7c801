/- Merged: BindsT. -/
import Derived.Test.YtnphopnhioogdaaDoorTU18
import Derived.Test.YtnphopnhioogdaaDoorTU9
import Derived.Test.YtnphopnhioogdaaDoorTU7
namespace Go.Proofs.YtnphopnhioogdaaDoor
open Go.RowKit

/-- The names that are bound in a part. -/
def bnd (last : Bool) (xs : List ByteArray) : List ByteArray := if last = true then xs else []
theorem hasB_bnd (last : Bool) (xs : List ByteArray) (s : List UInt8) : hasB (bnd last xs) s = (last && hasB xs s) := by
  cases last <;> simp [bnd, hasB]
theorem xsOf_length : ∀ (cs : List Sg) (ps : List Tree), (xsOf cs ps).length ≤ ps.length
  | [], _ => by simp [xsOf]
  | c :: cs, [] => by cases c <;> simp [xsOf]
  | c :: cs, p :: ps => by
    have := xsOf_length cs ps
    cases c <;> simp [xsOf] <;> omega
theorem xsOf_step {cs : List Sg} {qs : List Tree} {j : Nat} {c : Sg} {p : Tree} (hc : cs[j]? = some c) (hp : qs[j]? = some p) :
    xsOf (cs.drop j) (qs.drop j) = if c = .X then p.text :: xsOf (cs.drop (j + 1)) (qs.drop (j + 1)) else xsOf (cs.drop (j + 1)) (qs.drop (j + 1)) := by
  rw [drop_at hc, drop_at hp]
  cases c <;> simp [xsOf]
theorem lo_X (c : Sg) (h : c ≠ .X) : ((c.lo.toNat : Int) == 120) = false := by
  cases c <;> first | rfl | exact absurd rfl h
theorem usesL_step {cs : List Sg} {qs : List Tree} {j n : Nat} {c : Sg} {p : Tree} (hn : cs.length = n) (hc : cs[j]? = some c) (hp : qs[j]? = some p) (s : List UInt8) (xs : List ByteArray) :
    Tree.usesL s xs (cs.drop j) (qs.drop j) = (if (c.isK && !hasB (bnd (decide (j + 1 = n)) xs) s) = true then p.uses s else 0) + Tree.usesL s xs (cs.drop (j + 1)) (qs.drop (j + 1)) := by
  have hj := (List.getElem?_eq_some_iff.1 hc).1
  have e : (cs.drop (j + 1) = []) ↔ j + 1 = n := by
    rw [List.drop_eq_nil_iff]; omega
  rw [drop_at hc, drop_at hp, Tree.usesL, hasB_bnd]
  obtain ⟨r, hr⟩ : ∃ r, cs.drop (j + 1) = r := ⟨_, rfl⟩
  rw [hr] at e ⊢
  congr 1
  by_cases hl : j + 1 = n
  · have h1 := e.2 hl
    subst h1
    rw [decide_eq_true hl]
    cases c.isK <;> cases hasB xs s <;> simp
  · have h1 : ¬ r = [] := fun x => hl (e.1 x)
    rw [decide_eq_false hl]
    cases c.isK <;> simp [h1]
mutual
theorem uses_le (s : List UInt8) : ∀ t : Tree, t.uses s ≤ t.wt
  | .atom a => by rw [Tree.uses, Tree.wt]; split <;> omega
  | .node [] => by rw [Tree.uses]; omega
  | .node (h :: ps) => by rw [Tree.uses, Tree.wt, Tree.wts]; have := usesL_le s (xsOf (shape h.text.toList) ps) (shape h.text.toList) ps; omega
theorem usesL_le (s : List UInt8) (xs : List ByteArray) : ∀ (cs : List Sg) (ps : List Tree), Tree.usesL s xs cs ps ≤ Tree.wts ps
  | [], _ => by simp [Tree.usesL]
  | _ :: _, [] => by simp [Tree.usesL]
  | c :: cs, p :: ps => by
    rw [Tree.usesL, Tree.wts]
    have h1 := uses_le s p
    have h2 := usesL_le s xs cs ps
    split <;> omega
end

set_option maxRecDepth 100000 in
set_option maxHeartbeats 1000000 in
theorem l2Binds_not (b N cap : Nat) (a : ByteArray) (j : Int) (w : World) (hj : j < (N : Int) - 1) (hN : N ≤ 100) :
    Calls Tryd.prog 70 #[.agg #[.string a, .slice (some ⟨b, 0, none⟩) N cap], .int .i64 j] w (OwnS [] w) := by
  have HO := hid (own_empty (w.alloc (.cells #[.string a, .slice (some ⟨b, 0, none⟩) N cap] 53)) w.heap.size (by simp))
  go_enter Tryd.func70, Tryd.ntmps70
  go_wp2_with fail
  go_ret
  exact ⟨_, 0, rfl, by simpa using HO.out, ((Below.refl _ _).alloc (Nat.le_refl _) _).alloc (by simp) _⟩

set_option maxRecDepth 100000 in
set_option maxHeartbeats 2000000 in
theorem l2Binds_last (q : Tree) (qs : List Tree) (b N n cap : Nat) (a : ByteArray) (j : Int) (w : World) (hN : N = n + 1) (hn : qs.length = n) (hsl : (shape q.text.toList).length = qs.length) (hj : (N : Int) - 1 ≤ j)
    (hc0 : w.cell? ⟨b, 0, none⟩ = some (.string q.text)) (hT : ∀ k p, qs[k]? = some p → w.cell? ⟨b, (k + 1) * 2, none⟩ = some (.string p.text)) :
    Calls Tryd.prog 70 #[.agg #[.string a, .slice (some ⟨b, 0, none⟩) N cap], .int .i64 j] w (OwnS (xsOf (shape q.text.toList) qs) w) := by
  have HF := hid (fun W => l2Shape_any q.text W)
  have hsz := loS_size (shape q.text.toList)
  have h4 := shape_four q.text.toList
  have HFG := hid (fun i c h hi => loS_get (shape q.text.toList) i c h hi)
  obtain ⟨F, hF⟩ : ∃ F, loS (shape q.text.toList) = F := ⟨_, rfl⟩
  rw [hF] at HF hsz HFG
  have hFn : F.size = n := by omega
  have HFN := hid hFn
  have f3 : F.size ≤ 4 := by omega
  have hN1 : n < N := by omega
  have hN5 : N ≤ 5 := by omega
  have HSL := hid (hsl.trans hn)
  have HN := hid hn
  have HT := hid hT
  have HC0 := hid hc0
  have hd : decide (j < (N : Int) - 1) = false := decide_eq_false (by omega)
  have hlt0 := World.block_lt_of_cell? w _ hc0
  have HO := hid (own_empty (w.alloc (.cells #[.string a, .slice (some ⟨b, 0, none⟩) N cap] 53)) (w.heap.size + 1) (by simp))
  have kc0 : ((w.alloc (.cells #[.string a, .slice (some ⟨b, 0, none⟩) N cap] 53)).alloc (.cells #[] 9)).cell? ⟨b, 0, none⟩ = some (.string q.text) := ((((Kept.refl w).alloc (Nat.le_refl _) _).alloc (by simp) _)).cell hc0
  obtain ⟨cs, hcs⟩ : ∃ cs, shape q.text.toList = cs := ⟨_, rfl⟩
  rw [hcs] at HSL HFG ⊢
  have hFle : n ≤ F.size := by omega
  obtain ⟨i0, hi0, hz0, hz1, hz2⟩ := info_parts Tryd.infoStr
  clear hF hsz hFn hsl hn hT hN hcs h4 hc0
  go_enter Tryd.func70, Tryd.ntmps70
  go_wp2_with (go_at_call 65; refine (HF.out _).mono ?_; rintro e w2 ⟨rfl, rfl⟩)
  go_loopw [5, 7] (fun v u wr => ∃ (i m c g : Nat) (L : List ByteArray), i ≤ F.size ∧ m ≤ i ∧ u = .int .i64 (i : Int) ∧ v = .slice (some ⟨g, 0, none⟩) m c ∧ wr.ownsRow (w.heap.size + 1) 9 1 (.slice (some ⟨g, 0, none⟩) m c) m (L.map Value.string) ∧
      Below (w.heap.size + 1) (w.alloc (.cells #[.string a, .slice (some ⟨b, 0, none⟩) N cap] 53)) wr ∧ Hid (L ++ xsOf (cs.drop i) (qs.drop i) = xsOf cs qs ∧ L.length = m)) (fun _ u _ => F.size - (intOf u).toNat)
  case atStart => exact ⟨0, 0, 0, _, [], Nat.zero_le _, Nat.le_refl _, rfl, rfl, by simpa using HO.out, (Below.refl _ _).alloc (by simp) _, hid ⟨by simp, rfl⟩⟩
  case round =>
    obtain ⟨i, m, c, g, L, hi, hmi, rfl, rfl, hown, hbel, hL⟩ := hrel
    have hz := hbel.size
    simp at hz
    have kc2 := cells_of_pair (block_below (heap_new w (.cells #[.string a, .slice (some ⟨b, 0, none⟩) N cap] 53) w.heap.size rfl) hbel (by omega))
    have kw : Kept w wr := ((Kept.refl w).alloc (Nat.le_refl _) _).below hbel (by omega)
    have HOWN := hid hown
    have HBEL := hid hbel
    clear hown hbel
    by_cases hlt : i < F.size
    · have hin : i < n := by have := HFN.out; omega
      obtain ⟨p, hp⟩ : ∃ p, qs[i]? = some p := ⟨_, List.getElem?_eq_getElem (by rw [HN.out]; exact hin)⟩
      obtain ⟨d, hdc⟩ : ∃ d, cs[i]? = some d := ⟨_, List.getElem?_eq_getElem (by rw [HSL.out]; exact hin)⟩
      have hfc := HFG.out i d hdc hlt
      have ct := kw.cell (HT.out i p hp)
      have hst := xsOf_step hdc hp
      have d2 : i + 1 < N := by omega
      by_cases hX : d = .X
      · subst hX
        rw [if_pos rfl] at hst
        have HL2 := hid (show (L ++ [p.text]) ++ xsOf (cs.drop (i + 1)) (qs.drop (i + 1)) = xsOf cs qs ∧ (L ++ [p.text]).length = m + 1 by
          refine ⟨?_, by simp [hL.out.2]⟩
          rw [List.append_assoc, List.singleton_append, ← hst]; exact hL.out.1)
        have e1 : F[i] = 120 := hfc
        clear hst hfc hdc hp kw hL hd
        go_wp2_with (at_builtin; refine wpList_append_at _ rfl _ _ 23 rfl (w.heap.size + 1) 9 i0 (.string ByteArray.empty) 1 16 Tryd.underlying23 hi0 hz0 hz1 hz2 rfl (by decide) (.slice (some ⟨g, 0, none⟩) m c) m _ rfl (HOWN.out.alloc _) ⟨wr.heap.size, 0, none⟩ 1 1 [.string p.text] rfl rfl (cells_new1 _ _ _ _ rfl) (by intro u hu; simp at hu; subst hu; rfl) (by decide) (by unfold maxLen; omega) (by omega) (by simp; omega) ?_; intro v' w2 hown2 hg2 hw2 hv2; obtain ⟨g2, kc3, rfl⟩ := hv2; have HG := hid hg2; have HO2 := hid hown2; clear hg2 hown2 hw2)
        go_roundw
        case rel =>
          refine ⟨i + 1, m + 1, kc3, g2, L ++ [p.text], by omega, by omega, by go_num, rfl, by rw [List.map_append]; exact HO2.out, ?_, HL2⟩
          exact (HBEL.out.alloc (by omega) _).grown HG.out (by simp; omega) (fun k e => (HOWN.out.lt k e).1)
        case measure => simp [intOf]; omega
      · rw [if_neg hX] at hst
        have e1 : ((F[i].toNat : Int) == 120) = false := by rw [hfc]; exact lo_X d hX
        have HL2 := hid (show L ++ xsOf (cs.drop (i + 1)) (qs.drop (i + 1)) = xsOf cs qs ∧ L.length = m from ⟨by rw [← hst]; exact hL.out.1, hL.out.2⟩)
        clear hst hfc hdc hp kw hL hd hX
        go_wp2_with fail
        go_roundw
        case rel => exact ⟨i + 1, m, c, g, L, by omega, by omega, by go_num, rfl, HOWN.out, HBEL.out, HL2⟩
        case measure => simp [intOf]; omega
    · have he : L = xsOf cs qs := by
        have := hL.out.1
        rw [List.drop_of_length_le (l := cs) (by rw [HSL.out]; have := HFN.out; omega)] at this
        simpa [xsOf] using this
      have HE := hid he
      have HLL := hid hL.out.2
      clear he hL kw hd
      go_wp2_with fail
      go_ret
      refine ⟨some ⟨g, 0, none⟩, c, ?_, ?_, ?_⟩
      · rw [← HE.out, HLL.out]; rfl
      · rw [← HE.out, HLL.out]; exact own_base HOWN.out (by omega)
      · exact ((Below.refl w.heap.size w).alloc (Nat.le_refl _) _).trans (HBEL.out.mono (by omega))

/-- THE NAMES THAT ARE BOUND IN A PART. -/
theorem l2Binds_any (q : Tree) (qs : List Tree) (b N n i cap : Nat) (a : ByteArray) (w : World) (hN : N = n + 1) (hn : qs.length = n) (hi : i < n) (hsl : (shape q.text.toList).length = qs.length)
    (hc0 : w.cell? ⟨b, 0, none⟩ = some (.string q.text)) (hT : ∀ k p, qs[k]? = some p → w.cell? ⟨b, (k + 1) * 2, none⟩ = some (.string p.text)) :
    Calls Tryd.prog 70 #[.agg #[.string a, .slice (some ⟨b, 0, none⟩) N cap], .int .i64 ((i : Int) + 1)] w (OwnS (bnd (decide (i + 1 = n)) (xsOf (shape q.text.toList) qs)) w) := by
  have h4 := shape_four q.text.toList
  by_cases hl : i + 1 = n
  · rw [decide_eq_true hl]
    exact l2Binds_last q qs b N n cap a _ w hN hn hsl (by omega) hc0 hT
  · rw [decide_eq_false hl]
    exact l2Binds_not b N cap a _ w (by omega) (by omega)
end Go.Proofs.YtnphopnhioogdaaDoor
