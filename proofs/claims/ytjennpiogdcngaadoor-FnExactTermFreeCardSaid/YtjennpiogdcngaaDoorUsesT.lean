/- The names that a term binds in its last part (l2Binds), and how often a name stands free (l2Uses), by the model. -/
import Derived.Test.YtjennpiogdcngaaDoorSpecU
import Derived.Test.YtjennpiogdcngaaDoorKidsP
namespace Go.Proofs.YtjennpiogdcngaaDoor
open Go.RowKit

/-- The names that are bound in a part. -/
def bnd (last : Bool) (xs : List ByteArray) : List ByteArray := if last = true then xs else []
theorem hasB_bnd (last : Bool) (xs : List ByteArray) (s : List UInt8) : hasB (bnd last xs) s = (last && hasB xs s) := by
  cases last <;> simp [bnd, hasB]
theorem xsOf_length : ∀ (cs : List Sg) (ps : List Tree), (xsOf cs ps).length ≤ ps.length
  | [], _ => by simp [xsOf]
  | c :: cs, [] => by cases c <;> simp [xsOf]
  | c :: cs, p :: ps => by
    have := xsOf_length cs ps
    cases c <;> simp [xsOf] <;> omega
theorem xsOf_step {cs : List Sg} {qs : List Tree} {j : Nat} {c : Sg} {p : Tree} (hc : cs[j]? = some c) (hp : qs[j]? = some p) :
    xsOf (cs.drop j) (qs.drop j) = if c = .X then p.text :: xsOf (cs.drop (j + 1)) (qs.drop (j + 1)) else xsOf (cs.drop (j + 1)) (qs.drop (j + 1)) := by
  rw [drop_at hc, drop_at hp]
  cases c <;> simp [xsOf]
theorem lo_X (c : Sg) (h : c ≠ .X) : ((c.lo.toNat : Int) == 120) = false := by
  cases c <;> first | rfl | exact absurd rfl h
theorem usesL_step {cs : List Sg} {qs : List Tree} {j n : Nat} {c : Sg} {p : Tree} (hn : cs.length = n) (hc : cs[j]? = some c) (hp : qs[j]? = some p) (s : List UInt8) (xs : List ByteArray) :
    Tree.usesL s xs (cs.drop j) (qs.drop j) = (if (c.isK && !hasB (bnd (decide (j + 1 = n)) xs) s) = true then p.uses s else 0) + Tree.usesL s xs (cs.drop (j + 1)) (qs.drop (j + 1)) := by
  have hj := (List.getElem?_eq_some_iff.1 hc).1
  have e : (cs.drop (j + 1) = []) ↔ j + 1 = n := by
    rw [List.drop_eq_nil_iff]; omega
  rw [drop_at hc, drop_at hp, Tree.usesL, hasB_bnd]
  obtain ⟨r, hr⟩ : ∃ r, cs.drop (j + 1) = r := ⟨_, rfl⟩
  rw [hr] at e ⊢
  congr 1
  by_cases hl : j + 1 = n
  · have h1 := e.2 hl
    subst h1
    rw [decide_eq_true hl]
    cases c.isK <;> cases hasB xs s <;> simp
  · have h1 : ¬ r = [] := fun x => hl (e.1 x)
    rw [decide_eq_false hl]
    cases c.isK <;> simp [h1]
mutual
theorem uses_le (s : List UInt8) : ∀ t : Tree, t.uses s ≤ t.wt
  | .atom a => by rw [Tree.uses, Tree.wt]; split <;> omega
  | .node [] => by rw [Tree.uses]; omega
  | .node (h :: ps) => by rw [Tree.uses, Tree.wt, Tree.wts]; have := usesL_le s (xsOf (shape h.text.toList) ps) (shape h.text.toList) ps; omega
theorem usesL_le (s : List UInt8) (xs : List ByteArray) : ∀ (cs : List Sg) (ps : List Tree), Tree.usesL s xs cs ps ≤ Tree.wts ps
  | [], _ => by simp [Tree.usesL]
  | _ :: _, [] => by simp [Tree.usesL]
  | c :: cs, p :: ps => by
    rw [Tree.usesL, Tree.wts]
    have h1 := uses_le s p
    have h2 := usesL_le s xs cs ps
    split <;> omega
end

set_option maxRecDepth 100000 in
set_option maxHeartbeats 1000000 in
theorem l2Binds_not (b N cap : Nat) (a : ByteArray) (j : Int) (w : World) (hj : j < (N : Int) - 1) (hN : N ≤ 100) :
    Calls Tryd.prog 69 #[.agg #[.string a, .slice (some ⟨b, 0, none⟩) N cap], .int .i64 j] w (OwnS [] w) := by
  have HO := hid (own_empty (w.alloc (.cells #[.string a, .slice (some ⟨b, 0, none⟩) N cap] 38)) w.heap.size (by simp))
  go_enter Tryd.func69, Tryd.ntmps69
  go_wp2_with fail
  go_ret
  exact ⟨_, 0, rfl, by simpa using HO.out, ((Below.refl _ _).alloc (Nat.le_refl _) _).alloc (by simp) _⟩

set_option maxRecDepth 100000 in
set_option maxHeartbeats 2000000 in
theorem l2Binds_last (q : Tree) (qs : List Tree) (b N n cap : Nat) (a : ByteArray) (j : Int) (w : World) (hN : N = n + 1) (hn : qs.length = n) (hsl : (shape q.text.toList).length = qs.length) (hj : (N : Int) - 1 ≤ j)
    (hc0 : w.cell? ⟨b, 0, none⟩ = some (.string q.text)) (hT : ∀ k p, qs[k]? = some p → w.cell? ⟨b, (k + 1) * 2, none⟩ = some (.string p.text)) :
    Calls Tryd.prog 69 #[.agg #[.string a, .slice (some ⟨b, 0, none⟩) N cap], .int .i64 j] w (OwnS (xsOf (shape q.text.toList) qs) w) := by
  have HF := hid (fun W => l2Shape_any q.text W)
  have hsz := loS_size (shape q.text.toList)
  have h4 := shape_four q.text.toList
  have HFG := hid (fun i c h hi => loS_get (shape q.text.toList) i c h hi)
  obtain ⟨F, hF⟩ : ∃ F, loS (shape q.text.toList) = F := ⟨_, rfl⟩
  rw [hF] at HF hsz HFG
  have hFn : F.size = n := by omega
  have HFN := hid hFn
  have f3 : F.size ≤ 4 := by omega
  have hN1 : n < N := by omega
  have hN5 : N ≤ 5 := by omega
  have HSL := hid (hsl.trans hn)
  have HN := hid hn
  have HT := hid hT
  have HC0 := hid hc0
  have hd : decide (j < (N : Int) - 1) = false := decide_eq_false (by omega)
  have hlt0 := World.block_lt_of_cell? w _ hc0
  have HO := hid (own_empty (w.alloc (.cells #[.string a, .slice (some ⟨b, 0, none⟩) N cap] 38)) (w.heap.size + 1) (by simp))
  have kc0 : ((w.alloc (.cells #[.string a, .slice (some ⟨b, 0, none⟩) N cap] 38)).alloc (.cells #[] 9)).cell? ⟨b, 0, none⟩ = some (.string q.text) := ((((Kept.refl w).alloc (Nat.le_refl _) _).alloc (by simp) _)).cell hc0
  obtain ⟨cs, hcs⟩ : ∃ cs, shape q.text.toList = cs := ⟨_, rfl⟩
  rw [hcs] at HSL HFG ⊢
  have hFle : n ≤ F.size := by omega
  obtain ⟨i0, hi0, hz0, hz1, hz2⟩ := info_parts Tryd.infoStr
  clear hF hsz hFn hsl hn hT hN hcs h4 hc0
  go_enter Tryd.func69, Tryd.ntmps69
  go_wp2_with (go_at_call 59; refine (HF.out _).mono ?_; rintro e w2 ⟨rfl, rfl⟩)
  go_loopw [5, 7] (fun v u wr => ∃ (i m c g : Nat) (L : List ByteArray), i ≤ F.size ∧ m ≤ i ∧ u = .int .i64 (i : Int) ∧ v = .slice (some ⟨g, 0, none⟩) m c ∧ wr.ownsRow (w.heap.size + 1) 9 1 (.slice (some ⟨g, 0, none⟩) m c) m (L.map Value.string) ∧
      Below (w.heap.size + 1) (w.alloc (.cells #[.string a, .slice (some ⟨b, 0, none⟩) N cap] 38)) wr ∧ Hid (L ++ xsOf (cs.drop i) (qs.drop i) = xsOf cs qs ∧ L.length = m)) (fun _ u _ => F.size - (intOf u).toNat)
  case atStart => exact ⟨0, 0, 0, _, [], Nat.zero_le _, Nat.le_refl _, rfl, rfl, by simpa using HO.out, (Below.refl _ _).alloc (by simp) _, hid ⟨by simp, rfl⟩⟩
  case round =>
    obtain ⟨i, m, c, g, L, hi, hmi, rfl, rfl, hown, hbel, hL⟩ := hrel
    have hz := hbel.size
    simp at hz
    have kc2 := cells_of_pair (block_below (heap_new w (.cells #[.string a, .slice (some ⟨b, 0, none⟩) N cap] 38) w.heap.size rfl) hbel (by omega))
    have kw : Kept w wr := ((Kept.refl w).alloc (Nat.le_refl _) _).below hbel (by omega)
    have HOWN := hid hown
    have HBEL := hid hbel
    clear hown hbel
    by_cases hlt : i < F.size
    · have hin : i < n := by have := HFN.out; omega
      obtain ⟨p, hp⟩ : ∃ p, qs[i]? = some p := ⟨_, List.getElem?_eq_getElem (by rw [HN.out]; exact hin)⟩
      obtain ⟨d, hdc⟩ : ∃ d, cs[i]? = some d := ⟨_, List.getElem?_eq_getElem (by rw [HSL.out]; exact hin)⟩
      have hfc := HFG.out i d hdc hlt
      have ct := kw.cell (HT.out i p hp)
      have hst := xsOf_step hdc hp
      have d2 : i + 1 < N := by omega
      by_cases hX : d = .X
      · subst hX
        rw [if_pos rfl] at hst
        have HL2 := hid (show (L ++ [p.text]) ++ xsOf (cs.drop (i + 1)) (qs.drop (i + 1)) = xsOf cs qs ∧ (L ++ [p.text]).length = m + 1 by
          refine ⟨?_, by simp [hL.out.2]⟩
          rw [List.append_assoc, List.singleton_append, ← hst]; exact hL.out.1)
        have e1 : F[i] = 120 := hfc
        clear hst hfc hdc hp kw hL hd
        go_wp2_with (at_builtin; refine wpList_append_at _ rfl _ _ 24 rfl (w.heap.size + 1) 9 i0 (.string ByteArray.empty) 1 16 Tryd.underlying24 hi0 hz0 hz1 hz2 rfl (by decide) (.slice (some ⟨g, 0, none⟩) m c) m _ rfl (HOWN.out.alloc _) ⟨wr.heap.size, 0, none⟩ 1 1 [.string p.text] rfl rfl (cells_new1 _ _ _ _ rfl) (by intro u hu; simp at hu; subst hu; rfl) (by decide) (by unfold maxLen; omega) (by omega) (by simp; omega) ?_; intro v' w2 hown2 hg2 hw2 hv2; obtain ⟨g2, kc3, rfl⟩ := hv2; have HG := hid hg2; have HO2 := hid hown2; clear hg2 hown2 hw2)
        go_roundw
        case rel =>
          refine ⟨i + 1, m + 1, kc3, g2, L ++ [p.text], by omega, by omega, by go_num, rfl, by rw [List.map_append]; exact HO2.out, ?_, HL2⟩
          exact (HBEL.out.alloc (by omega) _).grown HG.out (by simp; omega) (fun k e => (HOWN.out.lt k e).1)
        case measure => simp [intOf]; omega
      · rw [if_neg hX] at hst
        have e1 : ((F[i].toNat : Int) == 120) = false := by rw [hfc]; exact lo_X d hX
        have HL2 := hid (show L ++ xsOf (cs.drop (i + 1)) (qs.drop (i + 1)) = xsOf cs qs ∧ L.length = m from ⟨by rw [← hst]; exact hL.out.1, hL.out.2⟩)
        clear hst hfc hdc hp kw hL hd hX
        go_wp2_with fail
        go_roundw
        case rel => exact ⟨i + 1, m, c, g, L, by omega, by omega, by go_num, rfl, HOWN.out, HBEL.out, HL2⟩
        case measure => simp [intOf]; omega
    · have he : L = xsOf cs qs := by
        have := hL.out.1
        rw [List.drop_of_length_le (l := cs) (by rw [HSL.out]; have := HFN.out; omega)] at this
        simpa [xsOf] using this
      have HE := hid he
      have HLL := hid hL.out.2
      clear he hL kw hd
      go_wp2_with fail
      go_ret
      refine ⟨some ⟨g, 0, none⟩, c, ?_, ?_, ?_⟩
      · rw [← HE.out, HLL.out]; rfl
      · rw [← HE.out, HLL.out]; exact own_base HOWN.out (by omega)
      · exact ((Below.refl w.heap.size w).alloc (Nat.le_refl _) _).trans (HBEL.out.mono (by omega))

/-- THE NAMES THAT ARE BOUND IN A PART. -/
theorem l2Binds_any (q : Tree) (qs : List Tree) (b N n i cap : Nat) (a : ByteArray) (w : World) (hN : N = n + 1) (hn : qs.length = n) (hi : i < n) (hsl : (shape q.text.toList).length = qs.length)
    (hc0 : w.cell? ⟨b, 0, none⟩ = some (.string q.text)) (hT : ∀ k p, qs[k]? = some p → w.cell? ⟨b, (k + 1) * 2, none⟩ = some (.string p.text)) :
    Calls Tryd.prog 69 #[.agg #[.string a, .slice (some ⟨b, 0, none⟩) N cap], .int .i64 ((i : Int) + 1)] w (OwnS (bnd (decide (i + 1 = n)) (xsOf (shape q.text.toList) qs)) w) := by
  have h4 := shape_four q.text.toList
  by_cases hl : i + 1 = n
  · rw [decide_eq_true hl]
    exact l2Binds_last q qs b N n cap a _ w hN hn hsl (by omega) hc0 hT
  · rw [decide_eq_false hl]
    exact l2Binds_not b N cap a _ w (by omega) (by omega)

/-- The texts of the parts of a tree in memory. -/
theorem part_texts {w0 : World} {S : Nat → Prop} {q : Tree} {qs : List Tree} {b n : Nat} {A : Nat → Hd} (hn : qs.length = n) (hA : ∀ i, i < n + 1 → w0.cell? ⟨b, i * 2, none⟩ = some (.string (A i).a)) (hps : ∀ i p, (q :: qs)[i]? = some p → TIn w0 S p (A i)) :
    w0.cell? ⟨b, 0, none⟩ = some (.string q.text) ∧ ∀ k p, qs[k]? = some p → w0.cell? ⟨b, (k + 1) * 2, none⟩ = some (.string p.text) := by
  refine ⟨?_, fun k p hp => ?_⟩
  · have := hA 0 (by omega)
    rw [(hps 0 q rfl).text] at this; simpa using this
  · have hk := (List.getElem?_eq_some_iff.1 hp).1
    have := hA (k + 1) (by omega)
    rw [(hps (k + 1) p (by simpa using hp)).text] at this; exact this
theorem OwnS.sv {l : List ByteArray} {w w' : World} {e : Ending} (h : OwnS l w e w') : ∃ q c, e = .returned (.slice q l.length c) ∧ SV w' q l.length c l ∧ Below w.heap.size w w' :=
  let ⟨q, c, he, ho, hb⟩ := h; ⟨q, c, he, sv_own ho, hb⟩

set_option maxRecDepth 100000 in
set_option maxHeartbeats 4000000 in
theorem l2Uses_go (s : ByteArray) {w0 : World} {S : Nat → Prop} {q : Tree} {qs : List Tree} {b cap n N : Nat} {A : Nat → Hd} (hn : qs.length = n) (hN : N = n + 1) (hwt : 1 + Tree.wts (q :: qs) ≤ 12000)
    (hA : ∀ i, i < n + 1 → w0.cell? ⟨b, i * 2, none⟩ = some (.string (A i).a)) (hB : ∀ i, i < n + 1 → w0.cell? ⟨b, i * 2 + 1, none⟩ = some (.slice (A i).p (A i).l (A i).c))
    (hps : ∀ i p, (q :: qs)[i]? = some p → TIn w0 S p (A i)) (hwf : Tree.srt (.node (q :: qs)) ≠ none)
    (ih : ∀ i p, (q :: qs)[i]? = some p → p.srt ≠ none → ∀ W, Kept w0 W → w0.heap.size ≤ W.heap.size → Calls Tryd.prog 50 #[.agg #[.string (A i).a, .slice (A i).p (A i).l (A i).c], .string s] W fun e w' => e = .returned (.int .i64 (p.uses s.toList : Int)) ∧ Below W.heap.size W w')
    (w : World) (hk : Kept w0 w) (hw : w0.heap.size ≤ w.heap.size) :
    Calls Tryd.prog 50 #[.agg #[.string ByteArray.empty, .slice (some ⟨b, 0, none⟩) N cap], .string s] w fun e w' => e = .returned (.int .i64 (Tree.uses s.toList (.node (q :: qs)) : Int)) ∧ Below w.heap.size w w' := by
  obtain ⟨h0, hsl, hft⟩ := wf_node hwf
  have h4 := shape_four q.text.toList
  obtain ⟨ht0, htk⟩ := part_texts hn hA hps
  have HFT := hid (fun i c p hc hp hk => fit1_wf (fits_get (shape q.text.toList) qs i c p hft hc hp) hk)
  have HI := hid (fun i c W h0 hc => l2Inner_any q b N cap i ByteArray.empty c W h0 (by omega) hc)
  have HBN := hid (fun i W hi h0 ht => l2Binds_any q qs b N n i cap ByteArray.empty W hN hn hi hsl h0 ht)
  have hxl : (xsOf (shape q.text.toList) qs).length ≤ 4 := by have := xsOf_length (shape q.text.toList) qs; omega
  have hle := usesL_le s.toList (xsOf (shape q.text.toList) qs) (shape q.text.toList) qs
  rw [Tree.wts] at hwt
  have HU := hid (show Tree.uses s.toList (.node (q :: qs)) = Tree.usesL s.toList (xsOf (shape q.text.toList) qs) (shape q.text.toList) qs by rw [Tree.uses])
  obtain ⟨cs, hcs⟩ : ∃ cs, shape q.text.toList = cs := ⟨_, rfl⟩
  rw [hcs] at HFT HI HBN HU hxl hle hsl h4
  obtain ⟨xs, hxs⟩ : ∃ xs, xsOf cs qs = xs := ⟨_, rfl⟩
  rw [hxs] at HBN HU hxl hle
  obtain ⟨R, hR⟩ : ∃ R, Tree.usesL s.toList xs cs qs = R := ⟨_, rfl⟩
  rw [hR] at HU hle
  have HR := hid hR
  have hn4 : n ≤ 4 := by omega
  have hN1 : n < N := by omega
  have hN2 : N ≤ n + 1 := by omega
  have hN5 : N ≤ 5 := by omega
  have hRle : R ≤ 12000 := by omega
  have HSL := hid (hsl.trans hn)
  have HN := hid hn
  have HT0 := hid ht0
  have HTK := hid htk
  have HA := hid hA
  have HB := hid hB
  have HIH := hid ih
  have HK := hid hk
  have hne : 1 ≤ N := by omega
  clear hn hN hwt hA hB hps hwf ih hk h0 hsl hft h4 ht0 htk hle hcs hxs hR
  go_enter Tryd.func50, Tryd.ntmps50
  go_wp2_with fail
  go_loopw [5, 6] (fun v u wr => ∃ (i m : Nat), i ≤ n ∧ m ≤ R ∧ u = .int .i64 ((i : Int) + 1) ∧ v = .int .i64 (m : Int) ∧ Below (w.heap.size + 1) (w.alloc (.cells #[.string ByteArray.empty, .slice (some ⟨b, 0, none⟩) N cap] 38)) wr ∧ Hid (m + Tree.usesL s.toList xs (cs.drop i) (qs.drop i) = R)) (fun _ u _ => N - (intOf u).toNat)
  case atStart => exact ⟨0, 0, Nat.zero_le _, Nat.zero_le _, rfl, rfl, Below.refl _ _, hid (by rw [List.drop_zero, List.drop_zero, Nat.zero_add]; exact HR.out)⟩
  case round =>
    obtain ⟨i, m, hi, hm, rfl, rfl, hbel, hL⟩ := hrel
    have hz := hbel.size
    simp at hz
    have kc2 := cells_of_pair (block_below (heap_new w (.cells #[.string ByteArray.empty, .slice (some ⟨b, 0, none⟩) N cap] 38) w.heap.size rfl) hbel (by omega))
    have kw : Kept w0 wr := (HK.out.alloc hw _).below hbel (by omega)
    have hwr : w0.heap.size ≤ wr.heap.size := by omega
    have HBEL := hid hbel
    by_cases hlt : i < n
    · obtain ⟨p, hp⟩ : ∃ p, qs[i]? = some p := ⟨_, List.getElem?_eq_getElem (by rw [HN.out]; exact hlt)⟩
      obtain ⟨c, hcc⟩ : ∃ c, cs[i]? = some c := ⟨_, List.getElem?_eq_getElem (by rw [HSL.out]; exact hlt)⟩
      have d2 : (i : Int) + 1 < (N : Int) := by omega
      have d2' : i + 1 < N := by omega
      have hst := usesL_step HSL.out hcc hp s.toList xs
      have CI := hid (fun W (hk : Kept wr W) => HI.out i c W (hk.cell (kw.cell HT0.out)) hcc)
      have CB := hid (fun W (hk : Kept wr W) => HBN.out i W hlt (hk.cell (kw.cell HT0.out)) (fun k p hp => hk.cell (kw.cell (HTK.out k p hp))))
      have ca := fun W (hk : Kept wr W) => hk.cell (kw.cell (HA.out (i + 1) (by omega)))
      have cb := fun W (hk : Kept wr W) => hk.cell (kw.cell (HB.out (i + 1) (by omega)))
      have CA := hid ca
      have CB2 := hid cb
      have kc3 := hid (fun W (hk : Kept wr W) => (show W.cell? ⟨w.heap.size, 0, none⟩ = some (.string ByteArray.empty) ∧ W.cell? ⟨w.heap.size, 1, none⟩ = some (.slice (some ⟨b, 0, none⟩) N cap) from ⟨hk.cell kc2.1, hk.cell kc2.2.1⟩))
      cases hK : c.isK with
      | false =>
        rw [hK] at CI
        have HL2 := hid (show m + Tree.usesL s.toList xs (cs.drop (i + 1)) (qs.drop (i + 1)) = R by have := hL.out; rw [hst, hK] at this; simpa using this)
        clear hst hL hp hcc kw hK ca cb
        go_wp2_with (go_at_call 40; refine (CI.out _ (Kept.refl _)).mono ?_; rintro e w1 ⟨rfl, hb1⟩)
        go_roundw
        case rel => exact ⟨i + 1, m, by omega, by omega, by go_num, rfl, HBEL.out.trans (hb1.mono (by omega)), HL2⟩
        case measure => simp [intOf]; omega
      | true =>
        rw [hK] at CI
        have hwp := HFT.out i c p hcc hp hK
        have HC := hid (fun W (hk : Kept wr W) (hs : wr.heap.size ≤ W.heap.size) => HIH.out (i + 1) p (by simpa using hp) hwp W (kw.trans hk hwr) (by omega))
        cases hh : hasB (bnd (decide (i + 1 = n)) xs) s.toList with
        | true =>
          have HL2 := hid (show m + Tree.usesL s.toList xs (cs.drop (i + 1)) (qs.drop (i + 1)) = R by have := hL.out; rw [hst, hK, hh] at this; simpa using this)
          have hbl : (bnd (decide (i + 1 = n)) xs).length ≤ 4 := by unfold bnd; split; exact hxl; simp
          have HH := hid hh
          obtain ⟨L, hLL⟩ : ∃ L, bnd (decide (i + 1 = n)) xs = L := ⟨_, rfl⟩
          rw [hLL] at CB HH hbl
          have HAS := hid (fun p1 c1 W hv => l2Has_any s L p1 L.length c1 W hv (by omega))
          rw [HH.out] at HAS
          clear hst hL hp hcc kw hK hh hLL ca cb
          go_wp2_with (first | (go_at_call 67; have _ := hb2; refine (HAS.out _ _ _ hsv).mono ?_; rintro e w3 ⟨rfl, rfl⟩) | (go_at_call 69; have _ := hb1; refine (CB.out _ (Kept.of_below hb1 (Nat.le_refl _))).mono ?_; rintro e w2 hp2; obtain ⟨q2, c2, rfl, hsv, hb2⟩ := hp2.sv; clear hp2) | (go_at_call 40; refine (CI.out _ (Kept.refl _)).mono ?_; rintro e w1 ⟨rfl, hb1⟩; have k1 := kc3.out _ (Kept.of_below hb1 (Nat.le_refl _))))
          go_roundw
          case rel => exact ⟨i + 1, m, by omega, by omega, by go_num, rfl, HBEL.out.trans ((hb1.trans (hb2.mono hb1.size)).mono (by omega)), HL2⟩
          case measure => simp [intOf]; omega
        | false =>
          have hrest : m + (p.uses s.toList + Tree.usesL s.toList xs (cs.drop (i + 1)) (qs.drop (i + 1))) = R := by have := hL.out; rw [hst, hK, hh] at this; simpa using this
          have hmR : m + p.uses s.toList ≤ R := by omega
          have HL2 := hid (show (m + p.uses s.toList) + Tree.usesL s.toList xs (cs.drop (i + 1)) (qs.drop (i + 1)) = R by omega)
          have hbl : (bnd (decide (i + 1 = n)) xs).length ≤ 4 := by unfold bnd; split; exact hxl; simp
          have HH := hid hh
          obtain ⟨L, hLL⟩ : ∃ L, bnd (decide (i + 1 = n)) xs = L := ⟨_, rfl⟩
          rw [hLL] at CB HH hbl
          obtain ⟨U, hU⟩ : ∃ U, p.uses s.toList = U := ⟨_, rfl⟩
          rw [hU] at HC hmR HL2
          have HAS := hid (fun p1 c1 W hv => l2Has_any s L p1 L.length c1 W hv (by omega))
          rw [HH.out] at HAS
          clear hst hL hp hcc kw hK hh hLL hrest hU hwp ca cb
          go_wp2_with (first | (go_at_call 50; have _ := hb2; refine (HC.out _ (Kept.of_below hb12 (Nat.le_refl _)) (by have := hb1.size; have := hb2.size; omega)).mono ?_; rintro e w4 ⟨rfl, hb4⟩) | (go_at_call 67; have _ := hb2; refine (HAS.out _ _ _ hsv).mono ?_; rintro e w3 ⟨rfl, rfl⟩) | (go_at_call 69; have _ := hb1; refine (CB.out _ (Kept.of_below hb1 (Nat.le_refl _))).mono ?_; rintro e w2 hp2; obtain ⟨q2, c2, rfl, hsv, hb2⟩ := hp2.sv; clear hp2; have hb12 := hb1.trans (hb2.mono hb1.size); have k2 := kc3.out _ (Kept.of_below hb12 (Nat.le_refl _)); have ca2 := CA.out _ (Kept.of_below hb12 (Nat.le_refl _)); have cb2 := CB2.out _ (Kept.of_below hb12 (Nat.le_refl _))) | (go_at_call 40; refine (CI.out _ (Kept.refl _)).mono ?_; rintro e w1 ⟨rfl, hb1⟩; have k1 := kc3.out _ (Kept.of_below hb1 (Nat.le_refl _))))
          go_roundw
          case rel => exact ⟨i + 1, m + U, by omega, by omega, by go_num, by go_num, HBEL.out.trans ((hb12.trans (hb4.mono (by have := hb1.size; have := hb2.size; omega))).mono (by omega)), HL2⟩
          case measure => simp [intOf]; omega
    · have he : m = R := by
        have := hL.out
        rw [List.drop_of_length_le (l := cs) (by rw [HSL.out]; omega)] at this
        simpa [Tree.usesL] using this
      have HE := hid he
      clear he hL kw
      go_wp2_with fail
      go_ret
      exact ⟨ret_int (by rw [HU.out, HE.out]), ((Below.refl w.heap.size w).alloc (Nat.le_refl _) _).trans (HBEL.out.mono (by omega))⟩

/-- HOW OFTEN A NAME STANDS FREE, BY THE MODEL. -/
theorem l2Uses_any (s : ByteArray) {w0 : World} {S : Nat → Prop} {t : Tree} {h : Hd} (ht : TIn w0 S t h) : t.wt ≤ 12000 → t.ok → t.srt ≠ none → ∀ w, Kept w0 w → w0.heap.size ≤ w.heap.size →
    Calls Tryd.prog 50 #[.agg #[.string h.a, .slice h.p h.l h.c], .string s] w fun e w' => e = .returned (.int .i64 (t.uses s.toList : Int)) ∧ Below w.heap.size w w' := by
  induction ht with
  | atom a hne hm =>
    intro _ _ _ w _ _
    have he := isEmpty_not a hne
    cases e0 : a.toList == s.toList with
    | true =>
      have HQ := hid (show (Tree.atom a).uses s.toList = 1 by rw [Tree.uses, if_pos (by simpa using e0)])
      go_enter Tryd.func50, Tryd.ntmps50
      go_wp2_with fail
      go_ret
      exact ⟨ret_int (by rw [HQ.out]; rfl), (Below.refl _ _).alloc (Nat.le_refl _) _⟩
    | false =>
      have HQ := hid (show (Tree.atom a).uses s.toList = 0 by rw [Tree.uses, if_neg (by simpa using e0)])
      go_enter Tryd.func50, Tryd.ntmps50
      go_wp2_with fail
      go_ret
      exact ⟨ret_int (by rw [HQ.out]; rfl), (Below.refl _ _).alloc (Nat.le_refl _) _⟩
  | node ps b cap A hp hl hc hS hA hB hps ih =>
    intro hwt hok hwf w hk hw
    obtain ⟨q, qs, rfl⟩ : ∃ q qs, ps = q :: qs := by cases ps with | nil => simp at hp | cons q qs => exact ⟨q, qs, rfl⟩
    rw [Tree.wt] at hwt
    rw [Tree.ok] at hok
    simp only [List.length_cons] at hl hA hB
    exact l2Uses_go s (S := S) (n := qs.length) rfl rfl hwt hA hB hps hwf (fun i p hp hw => ih i p hp (by have := wt_part (q :: qs) i p hp; omega) (oks_part _ hok i p hp) hw) w hk hw
end Go.Proofs.YtjennpiogdcngaaDoor
