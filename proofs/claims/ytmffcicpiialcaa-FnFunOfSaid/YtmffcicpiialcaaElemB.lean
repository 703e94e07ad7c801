/- What both readings of a type with an element tell; the parts of such a type. -/
import Derived.Test.YtmffcicpiialcaaElem
namespace Go.Proofs.Ytmffcicpiialcaa
open Go.RowKit

theorem cntV_hi (t : Ty) : cntV t.cnt ≤ 5000 := by
  cases h : t.cnt with
  | none => decide
  | some n => have := cnt_range t n h; show (n : Int) ≤ 5000; omega
/-- THE MODEL's READING OF A TYPE WITH AN ELEMENT. -/
theorem l1Element_any (s : ByteArray) (hs : s.size ≤ 400000000) (x y : ByteArray) (a b : UInt8) (hx : x.toList = [a]) (hy : y.toList = [b]) (ha : a ≠ 98) (hb : b ≠ 98) (k : Int) (w : World) :
    Calls Try.prog 16 #[.string s, .string x, .string y, .int .i64 k] w (TreePost (elemTree s a b k) w) := by
  cases ht : typeTree s with
  | none =>
    have e : elemTree s a b k = none := by rw [elemTree, ht]
    rw [e]; exact l1Element_none s hs x y k w ht
  | some t =>
    obtain ⟨hpt, hsz, ty, hty, hrt, hk⟩ := typeTree_some ht
    have h1 := cntV_hi ty
    have h0 := cntV_ge ty.cnt
    have key : (ty.headB = a ∨ ty.headB = b) → elemTree s a b k = pickT (decide (0 ≤ k ∧ k ≤ cntV ty.cnt - 1)) t := by
      intro hh
      rw [elemTree, ht, hrt, around]
      simp only
      by_cases hd : 0 ≤ k ∧ k ≤ cntV ty.cnt - 1
      · obtain ⟨n, hn, _⟩ := cntV_pos (o := ty.cnt) hd.1 (by omega)
        obtain ⟨xs, hxs⟩ := cnt_kc hn
        rw [if_pos (c := (ty.headB = a ∨ ty.headB = b) ∧ 0 ≤ k ∧ k < cntV ty.cnt) ⟨hh, hd.1, by omega⟩, hxs, decide_eq_true hd]; rfl
      · rw [if_neg (c := (ty.headB = a ∨ ty.headB = b) ∧ 0 ≤ k ∧ k < cntV ty.cnt) (fun h => hd ⟨h.2.1, by omega⟩), decide_eq_false hd]; rfl
    rcases headAtom_ty hty with ⟨hq, hn⟩ | ⟨hq, hn⟩
    · by_cases c1 : ty.headB = a
      · rw [key (Or.inl c1)]
        exact l1Element_fst s hs x y k w t ht ty hty _ rfl h0 h1 _ rfl (by rw [hq, hx, c1]; simp)
      · by_cases c2 : ty.headB = b
        · rw [key (Or.inr c2)]
          exact l1Element_snd s hs x y k w t ht ty hty _ rfl h0 h1 _ rfl (by rw [hq, hx]; simp [c1]) (by rw [hq, hy, c2]; simp)
        · have e : elemTree s a b k = none := by
            rw [elemTree, ht, hrt, around]
            simp only
            rw [if_neg (c := (ty.headB = a ∨ ty.headB = b) ∧ 0 ≤ k ∧ k < cntV ty.cnt) (fun h => h.1.elim c1 c2)]; rfl
          rw [e]; exact l1Element_not s hs x y k w t ht (by rw [hq, hx]; simp [c1]) (by rw [hq, hy]; simp [c2])
    · have e : elemTree s a b k = none := by
        rw [elemTree, ht, hrt, around, hn]
        simp only
        rw [if_neg (c := (Ty.headB .bit = a ∨ Ty.headB .bit = b) ∧ 0 ≤ k ∧ k < cntV (Ty.cnt .bit)) (fun h => h.1.elim (fun e => ha e.symm) (fun e => hb e.symm))]; rfl
      rw [e]; exact l1Element_not s hs x y k w t ht (by rw [hq, hx]; rfl) (by rw [hq, hy]; rfl)

/-- The two readings together: nothing, or a type with its tree and its parts' counts. -/
theorem elem_cases (s : ByteArray) (a b : UInt8) (k : Int) :
    (around (readTy s) a b k = none ∧ elemTree s a b k = none) ∨
    (∃ ty t xs n, around (readTy s) a b k = some xs ∧ elemTree s a b k = some t ∧ t.ty = some ty ∧ kc ty.kids = some xs ∧ (ty.headB = a ∨ ty.headB = b) ∧ ty.cnt = some n ∧ 0 ≤ k ∧ k < (n : Int) ∧ n ≤ 5000 ∧ ty.write.length ≤ 12000) := by
  cases ht : typeTree s with
  | none =>
    have hr := typeTree_none ht
    refine Or.inl ⟨by rw [hr]; rfl, by rw [elemTree, ht]⟩
  | some t =>
    obtain ⟨hpt, hsz, ty, hty, hrt, hk⟩ := typeTree_some ht
    by_cases hc : (ty.headB = a ∨ ty.headB = b) ∧ 0 ≤ k ∧ k < cntV ty.cnt
    · obtain ⟨n, hn, hn2⟩ := cntV_pos hc.2.1 hc.2.2
      obtain ⟨xs, hxs⟩ := cnt_kc hn
      have e : around (readTy s) a b k = some xs := by rw [hrt, around, if_pos hc, hxs]
      have := cnt_range ty n hn
      refine Or.inr ⟨ty, t, xs, n, e, by rw [elemTree, ht, e]; rfl, hty, hxs, hc.1, hn, hc.2.1, by omega, this.2, readTy_small hrt⟩
    · have e : around (readTy s) a b k = none := by rw [hrt, around, if_neg hc]
      exact Or.inl ⟨e, by rw [elemTree, ht, e]; rfl⟩
/-- Counts of one part and of two. -/
theorem kc_one {x : Ty} {xs : List Nat} (h : kc [x] = some xs) : ∃ a, xs = [a] ∧ x.cnt = some a ∧ 2 ≤ a ∧ a ≤ 5000 := by
  rw [kc] at h
  cases hx : x.cnt with
  | none => rw [hx] at h; simp at h
  | some a =>
    rw [hx] at h
    have := cnt_range x a hx
    exact ⟨a, by simpa [kc, eq_comm] using h, rfl, this.1, this.2⟩
theorem kc_two {x y : Ty} {xs : List Nat} (h : kc [x, y] = some xs) : ∃ a b, xs = [a, b] ∧ x.cnt = some a ∧ y.cnt = some b ∧ 2 ≤ a ∧ a ≤ 5000 ∧ 2 ≤ b ∧ b ≤ 5000 := by
  rw [kc] at h
  cases hx : x.cnt with
  | none => rw [hx] at h; simp at h
  | some a =>
    rw [hx] at h
    have h1 := cnt_range x a hx
    cases hy : kc [y] with
    | none => rw [hy] at h; simp at h
    | some ys =>
      rw [hy] at h
      obtain ⟨b, rfl, hb, h2, h3⟩ := kc_one hy
      exact ⟨a, b, by simpa [eq_comm] using h, rfl, hb, h1.1, h1.2, h2, h3⟩
/-- The tree of a type with two parts, in memory. -/
theorem tree_two {w : World} {S : Nat → Prop} {t : Tree} {ty x y : Ty} {a : ByteArray} {p : Option Addr} {l c : Nat} (ht : TIn w S t ⟨a, p, l, c⟩) (hty : t.ty = some ty) (hk : ty.kids = [x, y]) :
    ∃ (b : Nat) (A : Nat → Hd) (p1 p2 : Tree), p = some ⟨b, 0, none⟩ ∧ l = 3 ∧ 3 ≤ c ∧ c ≤ maxLen ∧ (∀ i, i < 3 → w.cell? ⟨b, i * 2, none⟩ = some (.string (A i).a)) ∧ (∀ i, i < 3 → w.cell? ⟨b, i * 2 + 1, none⟩ = some (.slice (A i).p (A i).l (A i).c)) ∧
      p1.ty = some x ∧ p2.ty = some y ∧ TIn w S p1 (A 1) ∧ TIn w S p2 (A 2) := by
  match t with
  | .atom s =>
    rw [Tree.ty] at hty
    split at hty
    · simp at hty; subst hty; simp [Ty.kids] at hk
    · simp at hty
  | .node [] => rw [Tree.ty] at hty; simp at hty
  | .node (q :: qs) =>
    rw [Tree.ty] at hty
    cases hks : Tree.tys qs with
    | none => rw [hks] at hty; simp at hty
    | some ks =>
      rw [hks] at hty; simp only at hty
      have := tyParts_kids hty
      rw [hk] at this; subst this
      obtain ⟨p1, p2, rfl, h1, h2⟩ := tys_two hks
      obtain ⟨b, A, rfl, rfl, rfl, hl, hc, hp, hA, hB, hps⟩ := ht.node_inv
      exact ⟨b, A, p1, p2, rfl, rfl, hl, hc, hA, hB, h1, h2, hps 1 p1 rfl, hps 2 p2 rfl⟩
theorem tree_one {w : World} {S : Nat → Prop} {t : Tree} {ty x : Ty} {a : ByteArray} {p : Option Addr} {l c : Nat} (ht : TIn w S t ⟨a, p, l, c⟩) (hty : t.ty = some ty) (hk : ty.kids = [x]) :
    ∃ (b : Nat) (A : Nat → Hd) (p1 : Tree), p = some ⟨b, 0, none⟩ ∧ l = 2 ∧ 2 ≤ c ∧ c ≤ maxLen ∧ (∀ i, i < 2 → w.cell? ⟨b, i * 2, none⟩ = some (.string (A i).a)) ∧ (∀ i, i < 2 → w.cell? ⟨b, i * 2 + 1, none⟩ = some (.slice (A i).p (A i).l (A i).c)) ∧
      p1.ty = some x ∧ TIn w S p1 (A 1) := by
  match t with
  | .atom s =>
    rw [Tree.ty] at hty
    split at hty
    · simp at hty; subst hty; simp [Ty.kids] at hk
    · simp at hty
  | .node [] => rw [Tree.ty] at hty; simp at hty
  | .node (q :: qs) =>
    rw [Tree.ty] at hty
    cases hks : Tree.tys qs with
    | none => rw [hks] at hty; simp at hty
    | some ks =>
      rw [hks] at hty; simp only at hty
      have := tyParts_kids hty
      rw [hk] at this; subst this
      obtain ⟨p1, rfl, h1⟩ := tys_one hks
      obtain ⟨b, A, rfl, rfl, rfl, hl, hc, hp, hA, hB, hps⟩ := ht.node_inv
      exact ⟨b, A, p1, rfl, rfl, hl, hc, hA, hB, h1, hps 1 p1 rfl⟩
end Go.Proofs.Ytmffcicpiialcaa
