/- What is written is read again: a tree's text is read as the tree. Nothing here speaks of a program. -/
import Derived.Test.YtknjpdbdchnpeaaWriteP
namespace Go.Proofs.Ytknjpdbdchnpeaa
open Go.RowKit

mutual
/-- A tree of atoms and parts as they are read. -/
def Tree.wk : Tree → Prop
  | .atom s => s.size ≠ 0 ∧ ∀ b ∈ s.data.toList, atomB b.toNat = true
  | .node ps => ps ≠ [] ∧ Tree.wks ps
def Tree.wks : List Tree → Prop
  | [] => True
  | p :: ps => p.wk ∧ Tree.wks ps
end
mutual
/-- How many parentheses lie within each other, and one. -/
def Tree.dp : Tree → Nat
  | .atom _ => 1
  | .node ps => 1 + Tree.dps ps
def Tree.dps : List Tree → Nat
  | [] => 0
  | p :: ps => Nat.max p.dp (Tree.dps ps)
end
theorem wks_mem {ps : List Tree} (h : Tree.wks ps) : ∀ p ∈ ps, p.wk := by
  induction ps with
  | nil => intro p hp; simp at hp
  | cons q ps ih =>
    rw [Tree.wks] at h
    intro p hp
    rcases List.mem_cons.1 hp with rfl | hp
    · exact h.1
    · exact ih h.2 p hp
theorem wks_of {ps : List Tree} (h : ∀ p ∈ ps, p.wk) : Tree.wks ps := by
  induction ps with
  | nil => trivial
  | cons q ps ih => exact ⟨h q (List.mem_cons_self ..), ih (fun p hp => h p (List.mem_cons_of_mem _ hp))⟩
theorem dps_mem {ps : List Tree} {k : Nat} : Tree.dps ps ≤ k ↔ ∀ p ∈ ps, p.dp ≤ k := by
  induction ps with
  | nil => simp [Tree.dps]
  | cons q ps ih =>
    rw [Tree.dps]
    constructor
    · intro h p hp
      have h1 : q.dp ≤ k := Nat.le_trans (Nat.le_max_left _ _) h
      have h2 : Tree.dps ps ≤ k := Nat.le_trans (Nat.le_max_right _ _) h
      rcases List.mem_cons.1 hp with rfl | hp
      · exact h1
      · exact ih.1 h2 p hp
    · intro h
      exact Nat.max_le.2 ⟨h q (List.mem_cons_self ..), ih.2 (fun p hp => h p (List.mem_cons_of_mem _ hp))⟩

theorem byte_drop {s : ByteArray} {i : Nat} {b : UInt8} {r : List UInt8} (h : s.data.toList.drop i = b :: r) : i < s.size ∧ byteAt s i = b.toNat ∧ s.data.toList.drop (i + 1) = r := by
  have hi : i < s.data.toList.length := by
    rcases Nat.lt_or_ge i s.data.toList.length with hc | hc
    · exact hc
    · rw [List.drop_of_length_le hc] at h; simp at h
  rw [List.drop_eq_getElem_cons hi] at h
  simp only [List.cons.injEq] at h
  have hs : i < s.size := by simpa using hi
  refine ⟨hs, ?_, h.2⟩
  rw [byteAt_lt s i hs]
  congr 1
  rw [← h.1]; rfl
/-- What stands behind an atom. -/
def stopB (r : List UInt8) : Prop := ∀ b q, r = b :: q → atomB b.toNat = false
theorem run_back {s : ByteArray} : ∀ (xs : List UInt8) (i : Nat) (r : List UInt8), (∀ b ∈ xs, atomB b.toNat = true) → stopB r → s.data.toList.drop i = xs ++ r → runEnd s i = i + xs.length
  | [], i, r, _, hr, h => by
    refine runEnd_stop s i ?_
    rintro ⟨h1, h2⟩
    have hd := List.drop_eq_getElem_cons (l := s.data.toList) (i := i) (by simpa using h1)
    rw [h, List.nil_append] at hd
    have := hr _ _ hd
    have hb := byte_drop (s := s) (i := i) (by rw [h, List.nil_append]; exact hd)
    rw [hb.2.1, this] at h2
    cases h2
  | x :: xs, i, r, hx, hr, h => by
    have hb := byte_drop (s := s) (i := i) (b := x) (r := xs ++ r) (by rw [h]; rfl)
    rw [runEnd_go s i hb.1 (by rw [hb.2.1]; exact hx x (List.mem_cons_self ..)), run_back xs (i + 1) r (fun b hb => hx b (List.mem_cons_of_mem _ hb)) hr hb.2.2, List.length_cons]
    omega
theorem extract_back {s a : ByteArray} {i : Nat} {r : List UInt8} (h : s.data.toList.drop i = a.data.toList ++ r) : s.extract i (i + a.data.toList.length) = a := by
  have h1 : (s.extract i (i + a.data.toList.length)).data.toList = a.data.toList := by
    rw [sl_extract, sl, h, show i + a.data.toList.length - i = a.data.toList.length by omega, List.take_left]
  cases a with
  | mk d =>
    generalize s.extract i (i + (ByteArray.mk d).data.toList.length) = x at h1
    cases x with
    | mk e => simp at h1; rw [h1]
theorem rdL_back (s : ByteArray) (f : Nat → Option (Tree × Nat)) (rest : List UInt8) : ∀ (ps : List Tree) (p : Tree) (n i : Nat) (acc : List Tree), ps.length < n →
    (∀ q ∈ p :: ps, ∀ j r, s.data.toList.drop j = q.write ++ r → stopB r → f j = some (q, j + q.write.length)) → s.data.toList.drop (i + 1) = p.write ++ (Tree.writes ps ++ 41 :: rest) →
    rdL s f n i acc = some (.node (acc ++ p :: ps), i + 1 + p.write.length + (Tree.writes ps).length + 1)
  | [], p, n + 1, i, acc, _, hf, h => by
    have h1 := hf p (List.mem_cons_self ..) (i + 1) _ h (by intro b q e; simp [Tree.writes] at e; rw [← e.1]; rfl)
    have h2 : s.data.toList.drop (i + 1 + p.write.length) = 41 :: rest := by rw [← List.drop_drop, h, List.drop_left]; rfl
    have hb := byte_drop h2
    rw [rdL, h1]
    simp only
    rw [if_pos hb.1, if_pos (by rw [hb.2.1]; rfl)]
    rfl
  | q :: qs, p, n + 1, i, acc, hn, hf, h => by
    have h1 := hf p (List.mem_cons_self ..) (i + 1) _ h (by intro b r e; simp [Tree.writes] at e; rw [← e.1]; rfl)
    have h2 : s.data.toList.drop (i + 1 + p.write.length) = 32 :: (q.write ++ (Tree.writes qs ++ 41 :: rest)) := by rw [← List.drop_drop, h, List.drop_left, Tree.writes]; simp
    have hb := byte_drop h2
    have ih := rdL_back s f rest qs q n (i + 1 + p.write.length) (acc ++ [p]) (by simp at hn; omega) (fun x hx => hf x (List.mem_cons_of_mem _ hx)) hb.2.2
    rw [rdL, h1]
    simp only
    rw [if_pos hb.1, if_neg (by rw [hb.2.1]; decide), if_pos (by rw [hb.2.1]; rfl), ih]
    simp only [Tree.writes, List.length_cons, List.length_append, List.append_assoc, List.singleton_append, Option.some.injEq, Prod.mk.injEq, true_and]
    omega
theorem writes_len (ps : List Tree) : ps.length ≤ (Tree.writes ps).length := by
  induction ps with
  | nil => simp
  | cons p ps ih => simp only [Tree.writes, List.length_cons, List.length_append]; omega
theorem rd_back (s : ByteArray) : ∀ (k : Nat) (t : Tree) (i : Nat) (r : List UInt8), t.wk → t.dp ≤ k → s.data.toList.drop i = t.write ++ r → stopB r → rd s k i = some (t, i + t.write.length)
  | 0, t, _, _, _, hd, _, _ => by cases t <;> simp [Tree.dp] at hd
  | k + 1, .atom a, i, r, hw, _, h, hr => by
    rw [Tree.wk] at hw
    rw [Tree.write] at h ⊢
    have h1 := run_back a.data.toList i r hw.2 hr h
    have hne : a.data.toList.length ≠ 0 := by simpa using hw.1
    obtain ⟨x, xs, hx⟩ : ∃ x xs, a.data.toList = x :: xs := by
      cases hc : a.data.toList with
      | nil => rw [hc] at hne; simp at hne
      | cons x xs => exact ⟨x, xs, rfl⟩
    have hb := byte_drop (s := s) (i := i) (b := x) (r := xs ++ r) (by rw [h, hx]; rfl)
    have h40 : byteAt s i ≠ 40 := by
      intro e
      have := hw.2 x (by rw [hx]; exact List.mem_cons_self ..)
      rw [← hb.2.1, e] at this
      cases this
    rw [rd_some_atom (by omega) hb.1 h40 (by rw [h1]; omega), h1, extract_back h]
  | k + 1, .node [], _, _, hw, _, _, _ => by rw [Tree.wk] at hw; exact absurd rfl hw.1
  | k + 1, .node (p :: ps), i, r, hw, hd, h, hr => by
    rw [Tree.wk] at hw
    rw [Tree.dp] at hd
    have hm := wks_mem hw.2
    have hdm := dps_mem.1 (show Tree.dps (p :: ps) ≤ k by omega)
    rw [Tree.write] at h
    have hb := byte_drop (s := s) (i := i) (b := 40) (r := p.write ++ (Tree.writes ps ++ 41 :: r)) (by rw [h]; simp)
    have hl : (s.data.toList.drop (i + 1)).length = (p.write ++ (Tree.writes ps ++ 41 :: r)).length := by rw [hb.2.2]
    have h2 := writes_len ps
    have hn : ps.length < s.size + 1 := by simp at hl; omega
    rw [rd_paren hb.1 (by rw [hb.2.1]; rfl), rdL_back s (rd s k) r ps p (s.size + 1) i [] hn (fun q hq j r' h1 h2 => rd_back s k q j r' (hm q hq) (hdm q hq) h1 h2) hb.2.2]
    simp only [List.nil_append, Tree.write, List.length_cons, List.length_append, List.length_nil, Option.some.injEq, Prod.mk.injEq, true_and]
    omega
theorem parse_back {s : ByteArray} {t : Tree} (hs : s.data.toList = t.write) (hw : t.wk) (hd : t.dp ≤ 101) (hl : t.write.length ≤ 12000) : parse s = some t := by
  have hz : s.size = t.write.length := by rw [← hs]; simp
  have h := rd_back s 101 t 0 [] hw hd (by rw [List.drop_zero, hs, List.append_nil]) (by intro b q e; cases e)
  unfold parse
  rw [if_pos (by omega), h]
  simp only
  rw [if_pos (by omega)]

/-- What is read is such a tree. -/
theorem runF_all (s : ByteArray) : ∀ (n i : Nat), ∀ j, i ≤ j → j < runF s n i → atomB (byteAt s j) = true
  | 0, i, j, h1, h2 => by rw [runF] at h2; omega
  | n + 1, i, j, h1, h2 => by
    rw [runF] at h2
    split at h2
    · rename_i hc
      by_cases e : j = i
      · rw [e]; exact hc.2
      · exact runF_all s n (i + 1) j (by omega) h2
    · omega
theorem rdL_wk (s : ByteArray) (f : Nat → Option (Tree × Nat)) (k : Nat) (hf : ∀ i p e, f i = some (p, e) → p.wk ∧ p.dp ≤ k) :
    ∀ n i acc p e, (∀ q ∈ acc, q.wk ∧ q.dp ≤ k) → rdL s f n i acc = some (p, e) → p.wk ∧ p.dp ≤ k + 1 := by
  intro n; induction n with
  | zero => intro i acc p e _ h; simp [rdL] at h
  | succ n ih =>
    intro i acc p e ha h
    rw [rdL] at h
    cases hr : f (i + 1) with
    | none => rw [hr] at h; simp at h
    | some x =>
      obtain ⟨p1, e1⟩ := x
      have hb := hf _ _ _ hr
      have ha2 : ∀ q ∈ acc ++ [p1], q.wk ∧ q.dp ≤ k := by
        intro q hq
        rcases List.mem_append.1 hq with hq | hq
        · exact ha q hq
        · simp at hq; subst hq; exact hb
      rw [hr] at h; simp only at h
      split at h
      · split at h
        · simp only [Option.some.injEq, Prod.mk.injEq] at h
          obtain ⟨rfl, _⟩ := h
          rw [Tree.wk, Tree.dp]
          exact ⟨⟨by simp, wks_of fun q hq => (ha2 q hq).1⟩, by have := dps_mem.2 (fun q hq => (ha2 q hq).2); omega⟩
        · split at h
          · exact ih _ _ _ _ ha2 h
          · simp at h
      · simp at h
theorem rd_wk (s : ByteArray) : ∀ k i p e, rd s k i = some (p, e) → p.wk ∧ p.dp ≤ k := by
  intro k; induction k with
  | zero => intro i p e h; simp [rd] at h
  | succ k ih =>
    intro i p e h
    rw [rd] at h
    split at h
    · rename_i hlt
      split at h
      · exact rdL_wk s _ k ih _ _ _ _ _ (fun q hq => by simp at hq) h
      · split at h
        · simp at h
        · rename_i hne
          simp only [Option.some.injEq, Prod.mk.injEq] at h
          obtain ⟨rfl, rfl⟩ := h
          have hge := runEnd_ge s i
          have hle := runEnd_le s i (by omega)
          rw [Tree.wk, Tree.dp]
          refine ⟨⟨by rw [ByteArray.size_extract]; omega, fun b hb => ?_⟩, by omega⟩
          rw [sl_extract, sl] at hb
          obtain ⟨j, hj, rfl⟩ := List.getElem_of_mem hb
          simp at hj
          have h1 := runF_all s _ i (i + j) (by omega) (show i + j < runEnd s i by omega)
          rw [byteAt_lt s (i + j) (by omega)] at h1
          rw [List.getElem_take, List.getElem_drop]
          exact h1
    · simp at h
theorem parse_wk {s : ByteArray} {t : Tree} (h : parse s = some t) : t.wk ∧ t.dp ≤ 101 ∧ t.write.length ≤ 12000 := by
  have hw := parse_write h
  unfold parse at h
  split at h
  · rename_i hs
    cases hr : rd s 101 0 with
    | none => rw [hr] at h; simp at h
    | some x =>
      obtain ⟨p, e⟩ := x
      rw [hr] at h; simp only at h
      split at h
      · simp at h; subst h
        have := rd_wk s _ _ _ _ hr
        refine ⟨this.1, this.2, ?_⟩
        rw [← hw]; simpa using hs
      · simp at h
  · simp at h
theorem part_wk {q : Tree} {ps : List Tree} (h : (Tree.node ps).wk ∧ (Tree.node ps).dp ≤ 101) (hq : q ∈ ps) : q.wk ∧ q.dp ≤ 101 := by
  rw [Tree.wk, Tree.dp] at h
  have := dps_mem.1 (Nat.le_refl (Tree.dps ps)) q hq
  exact ⟨wks_mem h.1.2 q hq, by omega⟩
end Go.Proofs.Ytknjpdbdchnpeaa
