/- Merged: LsP. -/
import Derived.Test.YtgogoekfidbpdaaDoorSQSSfXI
import Derived.Test.YtgogoekfidbpdaaDoorSQ24
import Derived.Test.YtgogoekfidbpdaaDoorSQ29
import Derived.Test.YtgogoekfidbpdaaDoorSQ0
namespace Go.Proofs.YtgogoekfidbpdaaDoor
open Go.RowKit

theorem name_atomB : ∀ l : List UInt8, nameB l = true → ∀ b ∈ l, atomB b.toNat = true
  | [], h, _, hb => by cases hb
  | c :: l, h, b, hb => by
    rw [nameB, Bool.and_eq_true] at h
    obtain ⟨h1, h2⟩ := h
    have h1 := of_decide_eq_true h1
    rcases List.mem_cons.1 hb with rfl | hb
    · exact atomB_t (by omega)
    · have := of_decide_eq_true (List.all_eq_true.1 h2 b hb)
      exact atomB_t (by omega)
theorem write_injS {t u : Tree} (ht : t.wk) (hu : u.wk) (h : t.write = u.write) : t = u := by
  have h1 := rd_back t.txt (Nat.max t.dp u.dp) t 0 [] ht (Nat.le_max_left _ _) (by rw [List.drop_zero, List.append_nil]; rfl) (by intro b q e; cases e)
  have h2 := rd_back t.txt (Nat.max t.dp u.dp) u 0 [] hu (Nat.le_max_right _ _) (by rw [List.drop_zero, List.append_nil, ← h]; rfl) (by intro b q e; cases e)
  rw [h1] at h2
  simp only [Option.some.injEq, Prod.mk.injEq] at h2
  exact h2.1
theorem hasB_appS (a b : List ByteArray) (s : List UInt8) : hasB (a ++ b) s = (hasB a s || hasB b s) := by
  induction a with
  | nil => show hasB b s = (false || hasB b s); rw [Bool.false_or]
  | cons x a ih => rw [List.cons_append, hasB_cons, hasB_cons, ih, Bool.or_assoc]
theorem ded_hasS (s : List UInt8) : ∀ (l acc : List ByteArray), hasB (dedB acc l) s = (hasB acc s || hasB l s)
  | [], acc => by rw [dedB]; simp [hasB]
  | x :: l, acc => by
    rw [dedB]
    split
    · rename_i h
      rw [ded_hasS s l acc, hasB_cons]
      cases e : x.toList == s with
      | false => simp
      | true =>
        have : x.toList = s := by simpa using e
        rw [this] at h; rw [h]; simp
    · rw [ded_hasS s l (acc ++ [x]), hasB_cons]
      have e1 : hasB (acc ++ [x]) s = (hasB acc s || x.toList == s) := by
        rw [hasB_appS, hasB_cons, show hasB [] s = false from rfl, Bool.or_false]
      rw [e1, Bool.or_assoc]
/-- Names but one. -/
def but (s : List UInt8) (l : List ByteArray) : List ByteArray := l.filter fun y => !(y.toList == s)
theorem but_has (s t : List UInt8) (l : List ByteArray) : hasB (but s l) t = (hasB l t && !(t == s)) := by
  induction l with
  | nil => rfl
  | cons x l ih =>
    unfold but at ih ⊢
    rw [List.filter_cons]
    cases e : x.toList == s with
    | true =>
      have e2 : x.toList = s := by simpa using e
      rw [if_neg (by simp), ih, hasB_cons, e2]
      cases f : s == t with
      | false => rfl
      | true =>
        have : s = t := by simpa using f
        rw [this]; simp
    | false =>
      rw [if_pos (by simp), hasB_cons, ih, hasB_cons]
      cases f : x.toList == t with
      | false => simp
      | true =>
        have f2 : x.toList = t := by simpa using f
        rw [← f2, e]; simp
theorem ded_but (s : List UInt8) : ∀ (l acc : List ByteArray), dedB (but s acc) (but s l) = but s (dedB acc l)
  | [], acc => by rw [dedB]; show dedB (but s acc) [] = _; rw [dedB]
  | x :: l, acc => by
    have ih := ded_but s l
    cases e : x.toList == s with
    | true =>
      have h1 : but s (x :: l) = but s l := by unfold but; rw [List.filter_cons, if_neg (by simp [e])]
      rw [h1, dedB]
      split
      · exact ih acc
      · rw [← ih (acc ++ [x])]
        have h2 : but s (acc ++ [x]) = but s acc := by unfold but; rw [List.filter_append, List.filter_cons, if_neg (by simp [e])]; simp
        rw [h2]
    | false =>
      have h1 : but s (x :: l) = x :: but s l := by unfold but; rw [List.filter_cons, if_pos (by simp [e])]
      rw [h1, dedB, dedB, but_has, e]
      simp only [Bool.not_false, Bool.and_true]
      split
      · exact ih acc
      · rw [← ih (acc ++ [x])]
        have h2 : but s (acc ++ [x]) = but s acc ++ [x] := by unfold but; rw [List.filter_append, List.filter_cons, if_pos (by simp [e])]; simp
        rw [h2]
/-- Lists in which nothing stands twice. -/
def ndS (l : List ByteArray) : Prop := ∀ i x, l[i]? = some x → hasB (l.take i) x.toList = false
theorem ded_ndS : ∀ (l acc : List ByteArray), ndS acc → ndS (dedB acc l)
  | [], acc, h => by rw [dedB]; exact h
  | y :: l, acc, h => by
    rw [dedB]
    cases e : hasB acc y.toList with
    | true => rw [if_pos rfl]; exact ded_ndS l acc h
    | false =>
      rw [if_neg (by decide)]
      refine ded_ndS l (acc ++ [y]) (fun i x hx => ?_)
      by_cases hi : i < acc.length
      · rw [List.getElem?_append_left hi] at hx
        rw [List.take_append_of_le_length (by omega)]
        exact h i x hx
      · have hi2 : i = acc.length := by
          have := (List.getElem?_eq_some_iff.1 hx).1
          simp at this; omega
        subst hi2
        rw [List.getElem?_append_right (Nat.le_refl _)] at hx
        simp at hx; subst hx
        rw [List.take_append_of_le_length (Nat.le_refl _), List.take_of_length_le (Nat.le_refl _)]
        exact e
theorem nd_tail {x : ByteArray} {l : List ByteArray} (h : ndS (x :: l)) : ndS l ∧ hasB l x.toList = false := by
  constructor
  · intro i y hy
    have := h (i + 1) y (by simpa using hy)
    rw [List.take_succ_cons, hasB_cons, Bool.or_eq_false_iff] at this
    exact this.2
  · cases e : hasB l x.toList with
    | false => rfl
    | true =>
      exfalso
      have : ∃ (i : Nat) (y : ByteArray), l[i]? = some y ∧ y.toList = x.toList := by
        clear h
        induction l with
        | nil => simp [hasB] at e
        | cons z l ih =>
          rw [hasB_cons, Bool.or_eq_true] at e
          rcases e with e | e
          · exact ⟨0, z, rfl, by simpa using e⟩
          · obtain ⟨i, y, h1, h2⟩ := ih e
            exact ⟨i + 1, y, by simpa using h1, h2⟩
      obtain ⟨i, y, h1, h2⟩ := this
      have h3 := h (i + 1) y (by simpa using h1)
      rw [List.take_succ_cons, hasB_cons, h2] at h3
      simp at h3
theorem but_len {s : List UInt8} : ∀ l : List ByteArray, ndS l → hasB l s = true → (but s l).length + 1 = l.length
  | [], _, h => by simp [hasB] at h
  | x :: l, hn, h => by
    obtain ⟨h1, h2⟩ := nd_tail hn
    cases e : x.toList == s with
    | true =>
      have e2 : x.toList = s := by simpa using e
      have hb : but s (x :: l) = but s l := by unfold but; rw [List.filter_cons, if_neg (by simp [e])]
      have hl : but s l = l := by
        unfold but
        refine List.filter_eq_self.2 (fun y hy => ?_)
        cases f : y.toList == s with
        | false => rfl
        | true =>
          exfalso
          have f2 : y.toList = s := by simpa using f
          rw [e2] at h2
          have : hasB l s = true := by
            clear h h1 h2 hn hb
            induction l with
            | nil => cases hy
            | cons z l ih =>
              rw [hasB_cons, Bool.or_eq_true]
              rcases List.mem_cons.1 hy with rfl | hy
              · left; simpa using f2
              · exact Or.inr (ih hy)
          rw [this] at h2; cases h2
      rw [hb, hl]; rfl
    | false =>
      have hb : but s (x :: l) = x :: but s l := by unfold but; rw [List.filter_cons, if_pos (by simp [e])]
      rw [hasB_cons, e, Bool.false_or] at h
      rw [hb, List.length_cons, List.length_cons, but_len l h1 h]
theorem fnm_nameB (e : Sx) : e.wf → ∀ x ∈ e.fnm, nameB x.toList = true := by
  induction e with
  | name a => intro h x hx; simp [Sx.fnm] at hx; subst hx; exact h
  | bit a => intro _ x hx; simp [Sx.fnm] at hx
  | lam x s e ih => intro h y hy; rw [Sx.fnm] at hy; exact ih h.2 y (List.mem_filter.1 hy).1
  | app d e i1 i2 => intro h y hy; rw [Sx.fnm] at hy; rcases List.mem_append.1 hy with hy | hy; exact i1 h.1 y hy; exact i2 h.2 y hy
  | iff d e g i1 i2 i3 =>
    intro h y hy
    rw [Sx.fnm] at hy
    rcases List.mem_append.1 hy with hy | hy
    · exact i1 h.1 y hy
    · rcases List.mem_append.1 hy with hy | hy
      · exact i2 h.2.1 y hy
      · exact i3 h.2.2 y hy
  | pair d e i1 i2 => intro h y hy; rw [Sx.fnm] at hy; rcases List.mem_append.1 hy with hy | hy; exact i1 h.1 y hy; exact i2 h.2 y hy
  | fst e ih => intro h y hy; exact ih h y hy
  | snd e ih => intro h y hy; exact ih h y hy
  | get => intro _ x hx; simp [Sx.fnm] at hx
  | put e ih => intro h y hy; exact ih h y hy
  | fail s => intro _ x hx; simp [Sx.fnm] at hx
theorem lam_sx {n : ByteArray} (hn : nameB n.toList = true) {t : Tree} {m : Sx} (h : t.sx = some m) : (Tree.node [.atom hLam, .atom n, .atom sBit, t]).sx = some (.lam n .bit m) := by
  have hf : frm (Tree.atom hLam).text.toList = some [.x, .s, .e] := by rw [Tree.text, hLam_l]; rfl
  have hs : stLim (.atom sBit) = some .bit := by
    have := tree_sty .bit
    rw [STy.tree] at this
    unfold stLim
    rw [this]; rfl
  rw [sx_some hf]
  simp only [List.map_cons, List.map_nil, addL, add7, Tree.text, hn, if_true, hs, h, Sst.none, List.nil_append]
  simp [mkSx, hLam_l]
/-- The free names of an expression in which one name is bound. -/
theorem sf_lam {s n X : ByteArray} {m : Sx} (h : readSx s = some m) (hn : nameB n.toList = true) (hX : X.data.toList = [40, 108, 97, 109, 32] ++ n.data.toList ++ [32, 98, 32] ++ s.data.toList ++ [41]) :
    sfX X = none ∨ sfX X = some (but n.toList (dedB [] m.fnm)) := by
  cases hx : readSx X with
  | none => exact Or.inl (sfX_none hx)
  | some m' =>
    right
    obtain ⟨p1, _, q1⟩ := readSx_inv h
    obtain ⟨p2, _, q2⟩ := readSx_inv hx
    have w1 := (parse_wk p1).1
    have w2 := (parse_wk p2).1
    have e1 := parse_write p1
    have e2 := parse_write p2
    have hnb : (Tree.atom n).wk := by
      have hl : n.data.toList = n.toList := (Go.ByteArray.toList_eq n).symm
      refine ⟨fun e => ?_, fun b hb => ?_⟩
      · have : n.toList = [] := by rw [← hl]; exact List.length_eq_zero_iff.1 e
        rw [this] at hn; cases hn
      · rw [hl] at hb; exact name_atomB _ hn b hb
    have hT : (Tree.node [.atom hLam, .atom n, .atom sBit, m.tree]).wk := ⟨by simp, ⟨by decide, by decide⟩, hnb, ⟨by decide, by decide⟩, w1, trivial⟩
    have e3 : m'.tree = Tree.node [.atom hLam, .atom n, .atom sBit, m.tree] := by
      refine write_injS w2 hT ?_
      rw [← e2, hX, e1]
      simp [Tree.write, Tree.writes, hLam, sBit]
    rw [e3, lam_sx hn q1] at q2
    obtain rfl := Option.some.inj q2
    rw [sfX_some hx, Sx.fnm]
    exact congrArg some (ded_but n.toList m.fnm [])
end Go.Proofs.YtgogoekfidbpdaaDoor
