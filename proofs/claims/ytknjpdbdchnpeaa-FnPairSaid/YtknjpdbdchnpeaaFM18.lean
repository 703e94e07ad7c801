/- Merged: ElemB, PrtI, OutI, LwR, LawI1, FatI. -/
import Derived.Test.YtknjpdbdchnpeaaFMSElem
import Derived.Test.YtknjpdbdchnpeaaFM7
namespace Go.Proofs.Ytknjpdbdchnpeaa
open Go.RowKit

theorem cntV_hi (t : Ty) : cntV t.cnt ≤ 5000 := by
  cases h : t.cnt with
  | none => decide
  | some n => have := cnt_range t n h; show (n : Int) ≤ 5000; omega
/-- THE MODEL's READING OF A TYPE WITH AN ELEMENT. -/
theorem l1Element_any (s : ByteArray) (hs : s.size ≤ 400000000) (x y : ByteArray) (a b : UInt8) (hx : x.toList = [a]) (hy : y.toList = [b]) (ha : a ≠ 98) (hb : b ≠ 98) (k : Int) (w : World) :
    Calls Try.prog 55 #[.string s, .string x, .string y, .int .i64 k] w (TreePost (elemTree s a b k) w) := by
  cases ht : typeTree s with
  | none =>
    have e : elemTree s a b k = none := by rw [elemTree, ht]
    rw [e]; exact l1Element_none s hs x y k w ht
  | some t =>
    obtain ⟨hpt, hsz, ty, hty, hrt, hk⟩ := typeTree_some ht
    have h1 := cntV_hi ty
    have h0 := cntV_ge ty.cnt
    have key : (ty.headB = a ∨ ty.headB = b) → elemTree s a b k = pickT (decide (0 ≤ k ∧ k ≤ cntV ty.cnt - 1)) t := by
      intro hh
      rw [elemTree, ht, hrt, around]
      simp only
      by_cases hd : 0 ≤ k ∧ k ≤ cntV ty.cnt - 1
      · obtain ⟨n, hn, _⟩ := cntV_pos (o := ty.cnt) hd.1 (by omega)
        obtain ⟨xs, hxs⟩ := cnt_kc hn
        rw [if_pos (c := (ty.headB = a ∨ ty.headB = b) ∧ 0 ≤ k ∧ k < cntV ty.cnt) ⟨hh, hd.1, by omega⟩, hxs, decide_eq_true hd]; rfl
      · rw [if_neg (c := (ty.headB = a ∨ ty.headB = b) ∧ 0 ≤ k ∧ k < cntV ty.cnt) (fun h => hd ⟨h.2.1, by omega⟩), decide_eq_false hd]; rfl
    rcases headAtom_ty hty with ⟨hq, hn⟩ | ⟨hq, hn⟩
    · by_cases c1 : ty.headB = a
      · rw [key (Or.inl c1)]
        exact l1Element_fst s hs x y k w t ht ty hty _ rfl h0 h1 _ rfl (by rw [hq, hx, c1]; simp)
      · by_cases c2 : ty.headB = b
        · rw [key (Or.inr c2)]
          exact l1Element_snd s hs x y k w t ht ty hty _ rfl h0 h1 _ rfl (by rw [hq, hx]; simp [c1]) (by rw [hq, hy, c2]; simp)
        · have e : elemTree s a b k = none := by
            rw [elemTree, ht, hrt, around]
            simp only
            rw [if_neg (c := (ty.headB = a ∨ ty.headB = b) ∧ 0 ≤ k ∧ k < cntV ty.cnt) (fun h => h.1.elim c1 c2)]; rfl
          rw [e]; exact l1Element_not s hs x y k w t ht (by rw [hq, hx]; simp [c1]) (by rw [hq, hy]; simp [c2])
    · have e : elemTree s a b k = none := by
        rw [elemTree, ht, hrt, around, hn]
        simp only
        rw [if_neg (c := (Ty.headB .bit = a ∨ Ty.headB .bit = b) ∧ 0 ≤ k ∧ k < cntV (Ty.cnt .bit)) (fun h => h.1.elim (fun e => ha e.symm) (fun e => hb e.symm))]; rfl
      rw [e]; exact l1Element_not s hs x y k w t ht (by rw [hq, hx]; rfl) (by rw [hq, hy]; rfl)

/-- The two readings together: nothing, or a type with its tree and its parts' counts. -/
theorem elem_cases (s : ByteArray) (a b : UInt8) (k : Int) :
    (around (readTy s) a b k = none ∧ elemTree s a b k = none) ∨
    (∃ ty t xs n, around (readTy s) a b k = some xs ∧ elemTree s a b k = some t ∧ t.ty = some ty ∧ kc ty.kids = some xs ∧ (ty.headB = a ∨ ty.headB = b) ∧ ty.cnt = some n ∧ 0 ≤ k ∧ k < (n : Int) ∧ n ≤ 5000 ∧ ty.write.length ≤ 12000) := by
  cases ht : typeTree s with
  | none =>
    have hr := typeTree_none ht
    refine Or.inl ⟨by rw [hr]; rfl, by rw [elemTree, ht]⟩
  | some t =>
    obtain ⟨hpt, hsz, ty, hty, hrt, hk⟩ := typeTree_some ht
    by_cases hc : (ty.headB = a ∨ ty.headB = b) ∧ 0 ≤ k ∧ k < cntV ty.cnt
    · obtain ⟨n, hn, hn2⟩ := cntV_pos hc.2.1 hc.2.2
      obtain ⟨xs, hxs⟩ := cnt_kc hn
      have e : around (readTy s) a b k = some xs := by rw [hrt, around, if_pos hc, hxs]
      have := cnt_range ty n hn
      refine Or.inr ⟨ty, t, xs, n, e, by rw [elemTree, ht, e]; rfl, hty, hxs, hc.1, hn, hc.2.1, by omega, this.2, readTy_small hrt⟩
    · have e : around (readTy s) a b k = none := by rw [hrt, around, if_neg hc]
      exact Or.inl ⟨e, by rw [elemTree, ht, e]; rfl⟩
/-- Counts of one part and of two. -/
theorem kc_one {x : Ty} {xs : List Nat} (h : kc [x] = some xs) : ∃ a, xs = [a] ∧ x.cnt = some a ∧ 2 ≤ a ∧ a ≤ 5000 := by
  rw [kc] at h
  cases hx : x.cnt with
  | none => rw [hx] at h; simp at h
  | some a =>
    rw [hx] at h
    have := cnt_range x a hx
    exact ⟨a, by simpa [kc, eq_comm] using h, rfl, this.1, this.2⟩
theorem kc_two {x y : Ty} {xs : List Nat} (h : kc [x, y] = some xs) : ∃ a b, xs = [a, b] ∧ x.cnt = some a ∧ y.cnt = some b ∧ 2 ≤ a ∧ a ≤ 5000 ∧ 2 ≤ b ∧ b ≤ 5000 := by
  rw [kc] at h
  cases hx : x.cnt with
  | none => rw [hx] at h; simp at h
  | some a =>
    rw [hx] at h
    have h1 := cnt_range x a hx
    cases hy : kc [y] with
    | none => rw [hy] at h; simp at h
    | some ys =>
      rw [hy] at h
      obtain ⟨b, rfl, hb, h2, h3⟩ := kc_one hy
      exact ⟨a, b, by simpa [eq_comm] using h, rfl, hb, h1.1, h1.2, h2, h3⟩
/-- The tree of a type with two parts, in memory. -/
theorem tree_two {w : World} {S : Nat → Prop} {t : Tree} {ty x y : Ty} {a : ByteArray} {p : Option Addr} {l c : Nat} (ht : TIn w S t ⟨a, p, l, c⟩) (hty : t.ty = some ty) (hk : ty.kids = [x, y]) :
    ∃ (b : Nat) (A : Nat → Hd) (p1 p2 : Tree), p = some ⟨b, 0, none⟩ ∧ l = 3 ∧ 3 ≤ c ∧ c ≤ maxLen ∧ (∀ i, i < 3 → w.cell? ⟨b, i * 2, none⟩ = some (.string (A i).a)) ∧ (∀ i, i < 3 → w.cell? ⟨b, i * 2 + 1, none⟩ = some (.slice (A i).p (A i).l (A i).c)) ∧
      p1.ty = some x ∧ p2.ty = some y ∧ TIn w S p1 (A 1) ∧ TIn w S p2 (A 2) := by
  match t with
  | .atom s =>
    rw [Tree.ty] at hty
    split at hty
    · simp at hty; subst hty; simp [Ty.kids] at hk
    · simp at hty
  | .node [] => rw [Tree.ty] at hty; simp at hty
  | .node (q :: qs) =>
    rw [Tree.ty] at hty
    cases hks : Tree.tys qs with
    | none => rw [hks] at hty; simp at hty
    | some ks =>
      rw [hks] at hty; simp only at hty
      have := tyParts_kids hty
      rw [hk] at this; subst this
      obtain ⟨p1, p2, rfl, h1, h2⟩ := tys_two hks
      obtain ⟨b, A, rfl, rfl, rfl, hl, hc, hp, hA, hB, hps⟩ := ht.node_inv
      exact ⟨b, A, p1, p2, rfl, rfl, hl, hc, hA, hB, h1, h2, hps 1 p1 rfl, hps 2 p2 rfl⟩
theorem tree_one {w : World} {S : Nat → Prop} {t : Tree} {ty x : Ty} {a : ByteArray} {p : Option Addr} {l c : Nat} (ht : TIn w S t ⟨a, p, l, c⟩) (hty : t.ty = some ty) (hk : ty.kids = [x]) :
    ∃ (b : Nat) (A : Nat → Hd) (p1 : Tree), p = some ⟨b, 0, none⟩ ∧ l = 2 ∧ 2 ≤ c ∧ c ≤ maxLen ∧ (∀ i, i < 2 → w.cell? ⟨b, i * 2, none⟩ = some (.string (A i).a)) ∧ (∀ i, i < 2 → w.cell? ⟨b, i * 2 + 1, none⟩ = some (.slice (A i).p (A i).l (A i).c)) ∧
      p1.ty = some x ∧ TIn w S p1 (A 1) := by
  match t with
  | .atom s =>
    rw [Tree.ty] at hty
    split at hty
    · simp at hty; subst hty; simp [Ty.kids] at hk
    · simp at hty
  | .node [] => rw [Tree.ty] at hty; simp at hty
  | .node (q :: qs) =>
    rw [Tree.ty] at hty
    cases hks : Tree.tys qs with
    | none => rw [hks] at hty; simp at hty
    | some ks =>
      rw [hks] at hty; simp only at hty
      have := tyParts_kids hty
      rw [hk] at this; subst this
      obtain ⟨p1, rfl, h1⟩ := tys_one hks
      obtain ⟨b, A, rfl, rfl, rfl, hl, hc, hp, hA, hB, hps⟩ := ht.node_inv
      exact ⟨b, A, p1, rfl, rfl, hl, hc, hA, hB, h1, hps 1 p1 rfl⟩
end Go.Proofs.Ytknjpdbdchnpeaa

namespace Go.Proofs.Ytknjpdbdchnpeaa
open Go.RowKit

/-- What PairParts tells, of the counts around. -/
def pairA (o : Option (List Nat)) (k : Int) : Int := match o with
  | some [_, y] => k / (y : Int)
  | _ => 0
def pairB (o : Option (List Nat)) (k : Int) : Int := match o with
  | some [_, y] => k % (y : Int)
  | _ => 0
def PairPost (o : Option (List Nat)) (k : Int) (w : World) (e : Ending) (w' : World) : Prop :=
  e = .returned (.tuple #[.int .i64 (pairA o k), .int .i64 (pairB o k), .bool o.isSome]) ∧ Below w.heap.size w w'
theorem two_kids {ty : Ty} (h : ty.headB = 42 ∨ ty.headB = 38) : ∃ x y, ty.kids = [x, y] := by
  cases ty with
  | pair x y => exact ⟨x, y, rfl⟩
  | choice x y => exact ⟨x, y, rfl⟩
  | bit => rcases h with h | h <;> cases h
  | thunk x => rcases h with h | h <;> cases h
  | ret x => rcases h with h | h <;> cases h
  | fn x y => rcases h with h | h <;> cases h
theorem heads_pair (t : Ty) : decide (0 ≤ Lib.indexByte (⟨#[42, 38]⟩ : ByteArray).data.toList t.headB) = decide (t.headB = 42 ∨ t.headB = 38) := by
  cases t <;> rfl

set_option maxRecDepth 100000 in
set_option maxHeartbeats 2000000 in
theorem implPairParts_any (s : ByteArray) (hs : s.size ≤ 400000000) (k : Int) (w : World) : Calls Try.prog 30 #[.string s, .int .i64 k] w (PairPost (around (readTy s) 42 38 k) k w) := by
  have HC := hid (fun W => around_any s ⟨#[42, 38]⟩ hs 42 38 (by decide) (by decide) k W heads_pair)
  rcases elem_cases s 42 38 k with ⟨h1, h2⟩ | ⟨ty, t, xs, n, h1, h2, hty, hkc, hh, hn, hk0, hkn, hn5, hw⟩
  · have H1 := hid h1
    clear h1 h2
    go_enter Try.func30, Try.ntmps30
    go_wp2_with (go_at_call 54; refine (HC.out _).mono ?_; rintro e w1 hp; rw [H1.out] at hp; obtain ⟨rfl, hb1⟩ := hp.none; clear hp)
    refine bodyPost_ret (v := .tuple #[.int .i64 0, .int .i64 0, .bool false]) (by simp [results, Try.results30, go_sem]) rfl ?_
    rw [H1.out]
    exact ⟨rfl, hb1⟩
  · obtain ⟨x, y, hxy⟩ := two_kids hh
    rw [hxy] at hkc
    obtain ⟨cx, cy, rfl, _, _, hx2, hx5, hy2, hy5⟩ := kc_two hkc
    have H1 := hid h1
    clear h1 h2 hty hkc hh hn hw hxy
    have hk63 : k ≤ 5000 := by omega
    go_enter Try.func30, Try.ntmps30
    go_wp2_with (go_at_call 54; refine (HC.out _).mono ?_; rintro e w1 hp; rw [H1.out] at hp; obtain ⟨q, c, rfl, hv, hb1⟩ := hp.some; clear hp; obtain ⟨g, rfl, hc1⟩ := hv 1 _ rfl; clear hv)
    go_quiet (fail)
    go_wp2_with fail
    refine bodyPost_ret (v := .tuple #[.int .i64 (k / (cy : Int)), .int .i64 (k % (cy : Int)), .bool true]) (by simp [results, Try.results30, go_sem]) rfl ?_
    rw [H1.out]
    exact ⟨rfl, below_drewN hb1 _⟩

set_option maxRecDepth 100000 in
set_option maxHeartbeats 2000000 in
theorem specPairParts_any (s : ByteArray) (hs : s.size ≤ 400000000) (k : Int) (w : World) : Calls Try.prog 31 #[.string s, .int .i64 k] w (PairPost (around (readTy s) 42 38 k) k w) := by
  have HC := hid (fun W => l1Element_any s hs ⟨#[42]⟩ ⟨#[38]⟩ 42 38 (by rw [Go.ByteArray.toList_eq]) (by rw [Go.ByteArray.toList_eq]) (by decide) (by decide) k W)
  rcases elem_cases s 42 38 k with ⟨h1, h2⟩ | ⟨ty, t, xs, n, h1, h2, hty, hkc, hh, hn, hk0, hkn, hn5, hw⟩
  · have H1 := hid h1
    have H2 := hid h2
    clear h1 h2
    go_enter Try.func31, Try.ntmps31
    go_wp2_with (go_at_call 55; refine (HC.out _).mono ?_; rintro e w1 hp; rw [H2.out] at hp; obtain ⟨pa, pp, pl, pc, rfl, hpl, hb1⟩ := hp.none; clear hp)
    refine bodyPost_ret (v := .tuple #[.int .i64 0, .int .i64 0, .bool false]) (by simp [results, Try.results31, go_sem]) rfl ?_
    rw [H1.out]
    exact ⟨rfl, hb1.alloc hb1.size _⟩
  · obtain ⟨x, y, hxy⟩ := two_kids hh
    rw [hxy] at hkc
    obtain ⟨cx, cy, rfl, hcx, hcy, hx2, hx5, hy2, hy5⟩ := kc_two hkc
    have H1 := hid h1
    have H2 := hid h2
    have HTY := hid hty
    have HXY := hid hxy
    have HV := hid (show cntV y.cnt = (cy : Int) by rw [hcy]; rfl)
    clear h1 h2 hty hkc hh hn hw hxy hcx hcy
    have hk63 : k ≤ 5000 := by omega
    go_enter Try.func31, Try.ntmps31
    go_wp2_with (first
      | (go_at_call 55; refine (HC.out _).mono ?_; rintro e w1 hp; rw [H2.out] at hp; obtain ⟨pa, pp, pl, pc, rfl, hb1, ht⟩ := hp.some; clear hp; obtain ⟨b, A, p1, p2, rfl, rfl, hc3, hcm, hA, hB, ht1, ht2, hi1, hi2⟩ := tree_two ht HTY.out HXY.out; have c4 := cell_alloc_old (hA 2 (by omega)) (.cells #[.string pa, .slice (some ⟨b, 0, none⟩) 3 pc] 56); have c5 := cell_alloc_old (hB 2 (by omega)) (.cells #[.string pa, .slice (some ⟨b, 0, none⟩) 3 pc] 56); have HD := hid (fun W hk hs => l1Count_any hi2 y ht2 W hk hs); clear ht hA hB ht1 ht2 hi1 hi2)
      | (go_at_call 51; refine (HD.out _ ((Kept.refl _).alloc (Nat.le_refl _) _) (by simp)).mono ?_; rintro e w2 ⟨he2, hb2⟩; rw [HV.out] at he2; subst he2))
    go_quiet (fail)
    go_wp2_with fail
    refine bodyPost_ret (v := .tuple #[.int .i64 (k / (cy : Int)), .int .i64 (k % (cy : Int)), .bool true]) (by simp [results, Try.results31, go_sem]) rfl ?_
    rw [H1.out]
    have s1 := hb1.size
    exact ⟨rfl, below_drewN (hb1.trans (((Below.refl _ _).alloc s1 _).trans (hb2.mono (by simp; omega)))) _⟩
end Go.Proofs.Ytknjpdbdchnpeaa

namespace Go.Proofs.Ytknjpdbdchnpeaa
open Go.RowKit

/-- An element's outcome for a state, of so many elements. -/
def outc (k st : Int) (n : Nat) : Int := (if st = 1 then k / (2 * (n : Int) + 1) else k) % (2 * (n : Int) + 1)
theorem one_kid {ty : Ty} (h : ty.headB = 102 ∨ ty.headB = 102) : ∃ x, ty = .ret x ∧ ty.kids = [x] := by
  cases ty with
  | ret x => exact ⟨x, rfl, rfl⟩
  | pair x y => rcases h with h | h <;> cases h
  | choice x y => rcases h with h | h <;> cases h
  | bit => rcases h with h | h <;> cases h
  | thunk x => rcases h with h | h <;> cases h
  | fn x y => rcases h with h | h <;> cases h
theorem heads_ret (t : Ty) : decide (0 ≤ Lib.indexByte (⟨#[102]⟩ : ByteArray).data.toList t.headB) = decide (t.headB = 102 ∨ t.headB = 102) := by
  cases t <;> rfl
/-- An outcome is in its range. Both programs divide twice where only the quotient's bound makes the rest of the division needless: k is less than the square. -/
theorem outc_range (k st : Int) (n : Nat) : 0 ≤ outc k st n ∧ outc k st n ≤ 2 * (n : Int) := by
  unfold outc
  have h0 : (0 : Int) < 2 * (n : Int) + 1 := by omega
  have h1 := Int.emod_nonneg (if st = 1 then k / (2 * (n : Int) + 1) else k) (by omega : 2 * (n : Int) + 1 ≠ 0)
  have h2 := Int.emod_lt_of_pos (if st = 1 then k / (2 * (n : Int) + 1) else k) h0
  omega
theorem outc_one (k : Int) (n : Nat) (h0 : 0 ≤ k) (h : k < (2 * (n : Int) + 1) * (2 * (n : Int) + 1)) : outc k 1 n = k / (2 * (n : Int) + 1) := by
  unfold outc
  rw [if_pos rfl]
  have h1 : (0 : Int) < 2 * (n : Int) + 1 := by omega
  exact Int.emod_eq_of_lt (Int.ediv_nonneg h0 (by omega)) (Int.ediv_lt_of_lt_mul h1 h)
theorem ret_bound {x : Ty} {n c : Nat} {k : Int} (h : (Ty.ret x).cnt = some n) (hx : x.cnt = some c) (hk : k < (n : Int)) : k < (2 * (c : Int) + 1) * (2 * (c : Int) + 1) := by
  rw [Ty.cnt, hx] at h
  simp only at h
  have := capped_some h
  have h2 : (n : Int) = (2 * (c : Int) + 1) * (2 * (c : Int) + 1) := by rw [this.1]; simp
  omega

set_option maxHeartbeats 1000000 in
theorem outcomeAt_any (k st : Int) (n : Nat) (hk0 : 0 ≤ k) (hk : k ≤ 5000) (hn : n ≤ 5000) (hb : k < (2 * (n : Int) + 1) * (2 * (n : Int) + 1)) (w : World) :
    Calls Try.prog 57 #[.int .i64 k, .int .i64 st, .int .i64 (n : Int)] w fun e w' => e = .returned (.int .i64 (outc k st n)) ∧ w = w' := by
  have HO := hid (fun W => (outcomes_any (n : Int) (by omega) (by omega) W).mono fun e w' h => (⟨h.1, h.2.symm⟩ : _ ∧ W = w'))
  have hp : (0 : Int) < 2 * (n : Int) + 1 := by omega
  by_cases h1 : st = 1
  · subst h1
    have HR := hid (outc_one k n hk0 hb)
    clear hb
    go_enter Try.func57, Try.ntmps57
    go_wp2_with (go_at_call 78; refine (HO.out _).mono ?_; rintro e w1 ⟨rfl, rfl⟩)
    go_ret
    exact ⟨ret_int HR.out.symm, rfl⟩
  · have HR := hid (show outc k st n = k % (2 * (n : Int) + 1) by unfold outc; rw [if_neg h1])
    have d1 : (st == 1) = false := beq_eq_false_iff_ne.2 h1
    clear hb h1
    go_enter Try.func57, Try.ntmps57
    go_wp2_with (go_at_call 78; refine (HO.out _).mono ?_; rintro e w1 ⟨rfl, rfl⟩)
    go_ret
    exact ⟨ret_int HR.out.symm, rfl⟩

/-- What ReturnOutcome tells, of the counts around. -/
def roX (o : Option (List Nat)) (k st : Int) : Option (Int × Nat) := match o with
  | some [n] => if st = 0 ∨ st = 1 then some (outc k st n, n) else none
  | _ => none
def roV (x : Option (Int × Nat)) : Value := match x with
  | some (o, n) => if o = 0 then .tuple #[.bool false, .int .i64 0, .int .i64 0, .bool true] else .tuple #[.bool true, .int .i64 ((o - 1) / (n : Int)), .int .i64 ((o - 1) % (n : Int)), .bool true]
  | none => .tuple #[.bool false, .int .i64 0, .int .i64 0, .bool false]
def RoPost (x : Option (Int × Nat)) (w : World) (e : Ending) (w' : World) : Prop := e = .returned (roV x) ∧ Below w.heap.size w w'
theorem roPost_none {w w' : World} (hb : Below w.heap.size w w') : RoPost none w (.returned (.tuple #[.bool false, .int .i64 0, .int .i64 0, .bool false])) w' := ⟨rfl, hb⟩
theorem roPost_zero {o : Int} {n : Nat} {w w' : World} (h : o = 0) (hb : Below w.heap.size w w') : RoPost (some (o, n)) w (.returned (.tuple #[.bool false, .int .i64 0, .int .i64 0, .bool true])) w' := ⟨by rw [roV, if_pos h], hb⟩
theorem roPost_some {o : Int} {n : Nat} {w w' : World} (h : o ≠ 0) (hb : Below w.heap.size w w') : RoPost (some (o, n)) w (.returned (.tuple #[.bool true, .int .i64 ((o - 1) / (n : Int)), .int .i64 ((o - 1) % (n : Int)), .bool true])) w' := ⟨by rw [roV, if_neg h], hb⟩
theorem roV_shape (x : Option (Int × Nat)) : ∃ a b c d, roV x = .tuple #[.bool a, .int .i64 b, .int .i64 c, .bool d] := by
  match x with
  | none => exact ⟨_, _, _, _, rfl⟩
  | some (o, n) =>
    by_cases h : o = 0
    · exact ⟨_, _, _, _, by rw [roV, if_pos h]⟩
    · exact ⟨_, _, _, _, by rw [roV, if_neg h]⟩

set_option maxRecDepth 100000 in
set_option maxHeartbeats 1000000 in
theorem returnedBy_any (o : Int) (c : Nat) (ho : 1 ≤ o) (ho2 : o ≤ 100000) (hc : 2 ≤ c) (hc5 : c ≤ 5000) (w : World) :
    Calls Try.prog 58 #[.int .i64 o, .int .i64 (c : Int)] w fun e w' => e = .returned (.tuple #[.int .i64 ((o - 1) / (c : Int)), .int .i64 ((o - 1) % (c : Int))]) ∧ Below w.heap.size w w' := by
  have wO : IntKind.i64.wrap (o - 1) = o - 1 := IntWalk.i64_in (o - 1) (by omega)
  have hge2 : 0 ≤ o - 1 := by omega
  have hd0 : (0 : Int) ≤ (o - 1) / (c : Int) := Int.ediv_nonneg hge2 (by omega)
  have hd1 : (o - 1) / (c : Int) ≤ o - 1 := Int.ediv_le_self _ hge2
  go_enter Try.func58, Try.ntmps58
  go_wp2
  go_quiet (fail)
  go_wp2_with fail
  go_ret2
  exact ⟨rfl, below_drewN (Below.refl _ _) _⟩

set_option maxRecDepth 100000 in
set_option maxHeartbeats 2000000 in
theorem implReturnOutcome_any (s : ByteArray) (hs : s.size ≤ 400000000) (k st : Int) (w : World) : Calls Try.prog 33 #[.string s, .int .i64 k, .int .i64 st] w (RoPost (roX (around (readTy s) 102 102 k) k st) w) := by
  have HC := hid (fun W => around_any s ⟨#[102]⟩ hs 102 102 (by decide) (by decide) k W heads_ret)
  rcases elem_cases s 102 102 k with ⟨h1, h2⟩ | ⟨ty, t, xs, n, h1, h2, hty, hkc, hh, hn, hk0, hkn, hn5, hw⟩
  · have H1 := hid h1
    have HX := hid (show roX (around (readTy s) 102 102 k) k st = none by rw [h1]; rfl)
    clear h1 h2
    go_enter Try.func33, Try.ntmps33
    go_wp2_with (go_at_call 54; refine (HC.out _).mono ?_; rintro e w1 hp; rw [H1.out] at hp; obtain ⟨rfl, hb1⟩ := hp.none; clear hp)
    refine bodyPost_ret (v := .tuple #[.bool false, .int .i64 0, .int .i64 0, .bool false]) (by simp [results, Try.results33, go_sem]) rfl ?_
    rw [HX.out]
    exact roPost_none hb1
  · obtain ⟨x, rfl, hxy⟩ := one_kid hh
    rw [hxy] at hkc
    obtain ⟨c, rfl, hcx, hx2, hx5⟩ := kc_one hkc
    have H1 := hid h1
    have hk63 : k ≤ 5000 := by omega
    have hbd := ret_bound hn hcx hkn
    by_cases hst : st = 0 ∨ st = 1
    · have HX := hid (show roX (around (readTy s) 102 102 k) k st = some (outc k st c, c) by rw [h1, roX, if_pos hst])
      have HO := hid (fun W => outcomeAt_any k st c hk0 hk63 hx5 hbd W)
      obtain ⟨hr0, hr1⟩ := outc_range k st c
      obtain ⟨o, ho⟩ : ∃ o, outc k st c = o := ⟨_, rfl⟩
      rw [ho] at HX HO hr0 hr1
      have d0 : (st != 0 && st != 1) = false := by rcases hst with h | h <;> subst h <;> rfl
      clear h1 h2 hty hkc hh hn hw hxy hbd hcx ho
      by_cases hz : o = 0
      · subst hz
        rcases hst with rfl | rfl
        all_goals
          go_enter Try.func33, Try.ntmps33
          go_wp2_with (first | (go_at_call 54; refine (HC.out _).mono ?_; rintro e w1 hp; rw [H1.out] at hp; obtain ⟨q, c2, rfl, hv, hb1⟩ := hp.some; clear hp; obtain ⟨g, rfl, hc1⟩ := hv 0 _ rfl; clear hv) | (go_at_call 57; refine (HO.out _).mono ?_; rintro e w2 ⟨rfl, rfl⟩))
          refine bodyPost_ret (v := .tuple #[.bool false, .int .i64 0, .int .i64 0, .bool true]) (by simp [results, Try.results33, go_sem]) rfl ?_
          rw [HX.out]
          exact roPost_zero rfl hb1
      · have d1 : (o == 0) = false := beq_eq_false_iff_ne.2 hz
        have HZ := hid hz
        have HRB := hid (fun W => returnedBy_any o c (by have := HZ.out; omega) (by omega) hx2 hx5 W)
        clear hz
        rcases hst with rfl | rfl
        all_goals
          go_enter Try.func33, Try.ntmps33
          go_wp2_with (first | (go_at_call 54; refine (HC.out _).mono ?_; rintro e w1 hp; rw [H1.out] at hp; obtain ⟨q, c2, rfl, hv, hb1⟩ := hp.some; clear hp; obtain ⟨g, rfl, hc1⟩ := hv 0 _ rfl; clear hv) | (go_at_call 57; refine (HO.out _).mono ?_; rintro e w2 ⟨rfl, rfl⟩) | (go_at_call 58; refine (HRB.out _).mono ?_; rintro e w3 ⟨rfl, hb3⟩))
          refine bodyPost_ret (v := .tuple #[.bool true, .int .i64 ((o - 1) / (c : Int)), .int .i64 ((o - 1) % (c : Int)), .bool true]) (by simp [results, Try.results33, go_sem]) rfl ?_
          rw [HX.out]
          exact roPost_some HZ.out (hb1.trans (hb3.mono hb1.size))
    · have HX := hid (show roX (around (readTy s) 102 102 k) k st = none by rw [h1, roX, if_neg hst])
      have d0 : (st != 0) = true := bne_iff_ne.2 (fun h => hst (Or.inl h))
      have d1 : (st != 1) = true := bne_iff_ne.2 (fun h => hst (Or.inr h))
      clear h1 h2 hty hkc hh hn hw hxy hbd hcx hst
      go_enter Try.func33, Try.ntmps33
      go_wp2_with (go_at_call 54; refine (HC.out _).mono ?_; rintro e w1 hp; rw [H1.out] at hp; obtain ⟨q, c2, rfl, hv, hb1⟩ := hp.some; clear hp; obtain ⟨g, rfl, hc1⟩ := hv 0 _ rfl; clear hv)
      refine bodyPost_ret (v := .tuple #[.bool false, .int .i64 0, .int .i64 0, .bool false]) (by simp [results, Try.results33, go_sem]) rfl ?_
      rw [HX.out]
      exact roPost_none hb1

set_option maxRecDepth 100000 in
set_option maxHeartbeats 2000000 in
theorem l1Outcome_any {w0 : World} {S : Nat → Prop} {t : Tree} {h : Hd} (ht : TIn w0 S t h) (x : Ty) (n : Nat) (hty : t.ty = some (.ret x)) (hcx : x.cnt = some n) (hn2 : 2 ≤ n) (hn5 : n ≤ 5000) (k st : Int) (hk0 : 0 ≤ k) (hk : k ≤ 5000) (w : World) (hk1 : Kept w0 w) (hw : w0.heap.size ≤ w.heap.size) :
    Calls Try.prog 60 #[.agg #[.string h.a, .slice h.p h.l h.c], .int .i64 k, .int .i64 st] w fun e w' => e = .returned (.int .i64 (outc k st n)) ∧ Below w.heap.size w w' := by
  obtain ⟨pa, pp, pl, pc⟩ := h
  obtain ⟨b, A, p1, rfl, rfl, hc3, hcm, hA, hB, ht1, hi1⟩ := tree_one ht hty rfl
  have c2 := cell_alloc_old (hk1.cell (hA 1 (by omega))) (.cells #[.string pa, .slice (some ⟨b, 0, none⟩) 2 pc] 56)
  have c3 := cell_alloc_old (hk1.cell (hB 1 (by omega))) (.cells #[.string pa, .slice (some ⟨b, 0, none⟩) 2 pc] 56)
  have HD := hid (fun W hk hs => l1Count_any hi1 x ht1 W hk hs)
  have HV := hid (show cntV x.cnt = (n : Int) by rw [hcx]; rfl)
  have HKW := hid (hk1.alloc hw (.cells #[.string pa, .slice (some ⟨b, 0, none⟩) 2 pc] 56))
  clear ht hA hB ht1 hi1 hcx hty hk1
  have hp : (0 : Int) < 2 * (n : Int) + 1 := by omega
  by_cases h1 : st = 1
  · subst h1
    have HR := hid (show outc k 1 n = k / (2 * (n : Int) + 1) % (2 * (n : Int) + 1) by unfold outc; rw [if_pos rfl])
    have hq0 : 0 ≤ k / (2 * (n : Int) + 1) := Int.ediv_nonneg hk0 (by omega)
    have hq1 : k / (2 * (n : Int) + 1) ≤ 5000 := by have := Int.ediv_le_self (2 * (n : Int) + 1) hk0; omega
    go_enter Try.func60, Try.ntmps60
    go_wp2_with (go_at_call 51; refine (HD.out _ HKW.out (by simp; omega)).mono ?_; rintro e w1 ⟨he1, hb1⟩; rw [HV.out] at he1; subst he1)
    go_ret
    exact ⟨ret_int HR.out.symm, ((Below.refl _ _).alloc (by simp) _).trans (hb1.mono (by simp))⟩
  · have HR := hid (show outc k st n = k % (2 * (n : Int) + 1) by unfold outc; rw [if_neg h1])
    have d1 : (st == 1) = false := beq_eq_false_iff_ne.2 h1
    clear h1
    go_enter Try.func60, Try.ntmps60
    go_wp2_with (go_at_call 51; refine (HD.out _ HKW.out (by simp; omega)).mono ?_; rintro e w1 ⟨he1, hb1⟩; rw [HV.out] at he1; subst he1)
    go_ret
    exact ⟨ret_int HR.out.symm, ((Below.refl _ _).alloc (by simp) _).trans (hb1.mono (by simp))⟩

set_option maxRecDepth 100000 in
set_option maxHeartbeats 2000000 in
theorem specReturnOutcome_any (s : ByteArray) (hs : s.size ≤ 400000000) (k st : Int) (w : World) : Calls Try.prog 34 #[.string s, .int .i64 k, .int .i64 st] w (RoPost (roX (around (readTy s) 102 102 k) k st) w) := by
  have HC := hid (fun W => l1Element_any s hs ⟨#[102]⟩ ⟨#[102]⟩ 102 102 (by rw [Go.ByteArray.toList_eq]) (by rw [Go.ByteArray.toList_eq]) (by decide) (by decide) k W)
  have HI := hid (fun W => l6In_any st 0 1 W)
  rcases elem_cases s 102 102 k with ⟨h1, h2⟩ | ⟨ty, t, xs, n, h1, h2, hty, hkc, hh, hn, hk0, hkn, hn5, hw⟩
  · have HX := hid (show roX (around (readTy s) 102 102 k) k st = none by rw [h1]; rfl)
    have H2 := hid h2
    clear h1 h2
    go_enter Try.func34, Try.ntmps34
    go_wp2_with (go_at_call 55; refine (HC.out _).mono ?_; rintro e w1 hp; rw [H2.out] at hp; obtain ⟨pa, pp, pl, pc, rfl, hpl, hb1⟩ := hp.none; clear hp)
    refine bodyPost_ret (v := .tuple #[.bool false, .int .i64 0, .int .i64 0, .bool false]) (by simp [results, Try.results34, go_sem]) rfl ?_
    rw [HX.out]
    exact roPost_none (hb1.alloc hb1.size _)
  · obtain ⟨x, rfl, hxy⟩ := one_kid hh
    rw [hxy] at hkc
    obtain ⟨c, rfl, hcx, hx2, hx5⟩ := kc_one hkc
    have H2 := hid h2
    have hk63 : k ≤ 5000 := by omega
    by_cases hst : st = 0 ∨ st = 1
    · have HX := hid (show roX (around (readTy s) 102 102 k) k st = some (outc k st c, c) by rw [h1, roX, if_pos hst])
      have HO := hid (fun (w1 : World) (t : Tree) (hd : Hd) (S : Nat → Prop) (ht : TIn w1 S t hd) (hty : t.ty = some (.ret x)) W h1 h2 => l1Outcome_any ht x c hty hcx hx2 hx5 k st hk0 hk63 W h1 h2)
      obtain ⟨hr0, hr1⟩ := outc_range k st c
      obtain ⟨o, ho⟩ : ∃ o, outc k st c = o := ⟨_, rfl⟩
      rw [ho] at HX HO hr0 hr1
      have dst : decide (0 ≤ st ∧ st ≤ 1) = true := decide_eq_true (by omega)
      rw [dst] at HI
      have HTY := hid hty
      have HXY := hid hxy
      have HV := hid (show cntV x.cnt = (c : Int) by rw [hcx]; rfl)
      clear h1 h2 hty hkc hh hn hw hxy hcx ho hst dst
      by_cases hz : o = 0
      · subst hz
        go_enter Try.func34, Try.ntmps34
        go_wp2_with (first | (go_at_call 55; refine (HC.out _).mono ?_; rintro e w1 hp; rw [H2.out] at hp; obtain ⟨pa, pp, pl, pc, rfl, hb1, ht⟩ := hp.some; clear hp; have HT := hid ht; clear ht) | (go_at_call 59; refine (HI.out _).mono ?_; rintro e w2 ⟨rfl, rfl⟩) | (go_at_call 60; refine (HO.out _ _ _ _ HT.out HTY.out _ ((Kept.refl _).alloc (Nat.le_refl _) _) (by simp)).mono ?_; rintro e w3 ⟨rfl, hb3⟩))
        refine bodyPost_ret (v := .tuple #[.bool false, .int .i64 0, .int .i64 0, .bool true]) (by simp [results, Try.results34, go_sem]) rfl ?_
        rw [HX.out]
        have s1 := hb1.size
        exact roPost_zero rfl (hb1.trans (((Below.refl _ _).alloc s1 _).trans (hb3.mono (by simp; omega))))
      · have d1 : (o == 0) = false := beq_eq_false_iff_ne.2 hz
        have HZ := hid hz
        clear hz
        go_enter Try.func34, Try.ntmps34
        go_wp2_with (first
          | (go_at_call 55; refine (HC.out _).mono ?_; rintro e w1 hp; rw [H2.out] at hp; obtain ⟨pa, pp, pl, pc, rfl, hb1, ht⟩ := hp.some; clear hp; have HT := hid ht; obtain ⟨b, A, p1, rfl, rfl, hc3, hcm, hA, hB, ht1, hi1⟩ := tree_one ht HTY.out HXY.out; have c2 := cell_alloc_old (hA 1 (by omega)) (.cells #[.string pa, .slice (some ⟨b, 0, none⟩) 2 pc] 56); have c3 := cell_alloc_old (hB 1 (by omega)) (.cells #[.string pa, .slice (some ⟨b, 0, none⟩) 2 pc] 56); have HD := hid (fun W hk hs => l1Count_any hi1 x ht1 W hk hs); have HCC := hid (⟨c2, c3⟩ : _ ∧ _); clear ht hA hB ht1 hi1 c2 c3)
          | (go_at_call 59; refine (HI.out _).mono ?_; rintro e w2 ⟨rfl, rfl⟩)
          | (go_at_call 60; refine (HO.out _ _ _ _ HT.out HTY.out _ ((Kept.refl _).alloc (Nat.le_refl _) _) (by simp)).mono ?_; rintro e w3 ⟨rfl, hb3⟩; have k0 := cells_of_pair (block_below (heap_new w1 (.cells #[.string pa, .slice (some ⟨b, 0, none⟩) 2 pc] 56) _ rfl) hb3 (by simp)); have c2 := (Kept.of_below hb3 (Nat.le_refl _)).cell HCC.out.1; have c3 := (Kept.of_below hb3 (Nat.le_refl _)).cell HCC.out.2)
          | (go_at_call 51; refine (HD.out _ (((Kept.refl _).alloc (Nat.le_refl _) _).below hb3 (by simp)) (by have := hb3.size; simp at this; omega)).mono ?_; rintro e w4 ⟨he4, hb4⟩; rw [HV.out] at he4; subst he4))
        have hge : 1 ≤ o := by have := HZ.out; omega
        have wO : IntKind.i64.wrap (o - 1) = o - 1 := IntWalk.i64_in (o - 1) (by omega)
        have hge2 : 0 ≤ o - 1 := by omega
        go_quiet (fail)
        go_wp2_with fail
        refine bodyPost_ret (v := .tuple #[.bool true, .int .i64 ((o - 1) / (c : Int)), .int .i64 ((o - 1) % (c : Int)), .bool true]) (by simp [results, Try.results34, go_sem]) rfl ?_
        rw [HX.out]
        have s1 := hb1.size
        have s3 := hb3.size
        simp at s3
        exact roPost_some HZ.out (below_drewN (hb1.trans (((Below.refl _ _).alloc s1 _).trans ((hb3.mono (by simp; omega)).trans (hb4.mono (by omega))))) _)
    · have HX := hid (show roX (around (readTy s) 102 102 k) k st = none by rw [h1, roX, if_neg hst])
      have dst : decide (0 ≤ st ∧ st ≤ 1) = false := decide_eq_false (by omega)
      rw [dst] at HI
      clear h1 h2 hty hkc hh hn hw hxy hcx hst dst
      go_enter Try.func34, Try.ntmps34
      go_wp2_with (first | (go_at_call 55; refine (HC.out _).mono ?_; rintro e w1 hp; rw [H2.out] at hp; obtain ⟨pa, pp, pl, pc, rfl, hb1, ht⟩ := hp.some; clear hp ht) | (go_at_call 59; refine (HI.out _).mono ?_; rintro e w2 ⟨rfl, rfl⟩))
      refine bodyPost_ret (v := .tuple #[.bool false, .int .i64 0, .int .i64 0, .bool false]) (by simp [results, Try.results34, go_sem]) rfl ?_
      rw [HX.out]
      exact roPost_none (hb1.alloc hb1.size _)
end Go.Proofs.Ytknjpdbdchnpeaa

namespace Go.Proofs.Ytknjpdbdchnpeaa
open Go.RowKit

theorem ar_some {s : ByteArray} {a b : UInt8} {k : Int} {xs : List Nat} (h : around (readTy s) a b k = some xs) :
    ∃ ty n, readTy s = some ty ∧ (ty.headB = a ∨ ty.headB = b) ∧ kc ty.kids = some xs ∧ ty.cnt = some n ∧ 0 ≤ k ∧ k < ((n : Nat) : Int) ∧ n ≤ 5000 := by
  cases hr : readTy s with
  | none => rw [hr] at h; simp [around] at h
  | some ty =>
    rw [hr] at h
    unfold around at h
    simp only at h
    split at h
    · rename_i hc
      obtain ⟨n, hn, hn2⟩ := cntV_pos hc.2.1 hc.2.2
      exact ⟨ty, n, rfl, hc.1, h, hn, hc.2.1, by omega, (cnt_range ty n hn).2⟩
    · simp at h
/-- What a pair's element is made of. -/
theorem pr_facts {s : ByteArray} {k : Int} {xs : List Nat} (h : around (readTy s) 42 38 k = some xs) :
    ∃ (ty x y : Ty) (cx cy : Nat) (A B : Int), readTy s = some ty ∧ ty.kids = [x, y] ∧ x.cnt = some cx ∧ y.cnt = some cy ∧ cx ≤ 5000 ∧ cy ≤ 5000 ∧
      pairA (some xs) k = A ∧ pairB (some xs) k = B ∧ 0 ≤ A ∧ A < (cx : Int) ∧ 0 ≤ B ∧ B < (cy : Int) ∧ A * (cy : Int) + B = k ∧ 0 ≤ A * (cy : Int) ∧ A * (cy : Int) ≤ 5000 ∧ 0 ≤ k ∧ k ≤ 5000 := by
  obtain ⟨ty, n, hr, hh, hkc, hn, hk0, hkn, hn5⟩ := ar_some h
  obtain ⟨x, y, hxy⟩ := two_kids hh
  rw [hxy] at hkc
  obtain ⟨cx, cy, rfl, hcx, hcy, hx2, hx5, hy2, hy5⟩ := kc_two hkc
  have hnn : n = cx * cy := by
    cases ty with
    | pair a b => simp [Ty.kids] at hxy; obtain ⟨rfl, rfl⟩ := hxy; rw [Ty.cnt, hcx, hcy] at hn; exact (capped_some hn).1
    | choice a b => simp [Ty.kids] at hxy; obtain ⟨rfl, rfl⟩ := hxy; rw [Ty.cnt, hcx, hcy] at hn; exact (capped_some hn).1
    | bit => rcases hh with h | h <;> cases h
    | thunk x => rcases hh with h | h <;> cases h
    | ret x => rcases hh with h | h <;> cases h
    | fn x y => rcases hh with h | h <;> cases h
  have hy0 : (0 : Int) < (cy : Int) := by omega
  have e1 : k / (cy : Int) * (cy : Int) + k % (cy : Int) = k := Int.ediv_mul_add_emod k (cy : Int)
  have e2 : 0 ≤ k % (cy : Int) := Int.emod_nonneg _ (by omega)
  have e3 : k % (cy : Int) < (cy : Int) := Int.emod_lt_of_pos _ hy0
  have e4 : 0 ≤ k / (cy : Int) := Int.ediv_nonneg hk0 (by omega)
  have e5 : k / (cy : Int) < (cx : Int) := Int.ediv_lt_of_lt_mul hy0 (by rw [hnn] at hkn; simpa using hkn)
  have e6 : 0 ≤ k / (cy : Int) * (cy : Int) := Int.mul_nonneg e4 (by omega)
  exact ⟨ty, x, y, cx, cy, k / (cy : Int), k % (cy : Int), hr, hxy, hcx, hcy, hx5, hy5, rfl, rfl, e4, e5, e2, e3, e1, e6, by omega, hk0, by omega⟩
/-- What one outcome tells. -/
def OcFact (c : Nat) (o : Int) (x : Bool) (y z : Int) : Prop :=
  (x = false ∧ y = 0 ∧ z = 0 ∧ o = 0) ∨ (x = true ∧ 0 ≤ y ∧ y ≤ 1 ∧ 0 ≤ z ∧ z < (c : Int) ∧ 1 + y * (c : Int) + z = o ∧ 0 ≤ y * (c : Int) ∧ y * (c : Int) ≤ 5000)
theorem oc_fact {o : Int} {c : Nat} (hc : 2 ≤ c) (hc5 : c ≤ 5000) (h0 : 0 ≤ o) (h1 : o < 2 * (c : Int) + 1) : ∃ x y z, roV (some (o, c)) = .tuple #[.bool x, .int .i64 y, .int .i64 z, .bool true] ∧ OcFact c o x y z := by
  by_cases ho : o = 0
  · exact ⟨false, 0, 0, by rw [roV, if_pos ho], Or.inl ⟨rfl, rfl, rfl, ho⟩⟩
  · have hc0 : (0 : Int) < (c : Int) := by omega
    have e1 : (o - 1) / (c : Int) * (c : Int) + (o - 1) % (c : Int) = o - 1 := Int.ediv_mul_add_emod (o - 1) (c : Int)
    have e2 : 0 ≤ (o - 1) % (c : Int) := Int.emod_nonneg _ (by omega)
    have e3 : (o - 1) % (c : Int) < (c : Int) := Int.emod_lt_of_pos _ hc0
    have e4 : 0 ≤ (o - 1) / (c : Int) := Int.ediv_nonneg (by omega) (by omega)
    have e5 : (o - 1) / (c : Int) < 2 := Int.ediv_lt_of_lt_mul hc0 (by omega)
    have e6 : 0 ≤ (o - 1) / (c : Int) * (c : Int) := Int.mul_nonneg e4 (by omega)
    have e7 : (o - 1) / (c : Int) = 0 ∨ (o - 1) / (c : Int) = 1 := by omega
    refine ⟨true, (o - 1) / (c : Int), (o - 1) % (c : Int), by rw [roV, if_neg ho], Or.inr ⟨rfl, e4, by omega, e2, e3, by omega, e6, ?_⟩⟩
    rcases e7 with h | h
    · rw [h]; omega
    · rw [h]; omega
/-- What a computation's element that returns is made of: the outcomes from both states. -/
theorem oc_facts {s : ByteArray} {k : Int} {xs : List Nat} (h : around (readTy s) 102 102 k = some xs) :
    ∃ (x : Ty) (c : Nat) (o1 o0 : Int), readTy s = some (.ret x) ∧ x.cnt = some c ∧ 2 ≤ c ∧ c ≤ 5000 ∧ 0 ≤ k ∧ k ≤ 5000 ∧
      roX (some xs) k 1 = some (o1, c) ∧ roX (some xs) k 0 = some (o0, c) ∧ 0 ≤ o1 ∧ o1 < 2 * (c : Int) + 1 ∧ 0 ≤ o0 ∧ o0 < 2 * (c : Int) + 1 ∧ o1 * (2 * (c : Int) + 1) + o0 = k ∧ 0 ≤ o1 * (2 * (c : Int) + 1) ∧ o1 * (2 * (c : Int) + 1) ≤ 5000 := by
  obtain ⟨ty, n, hr, hh, hkc, hn, hk0, hkn, hn5⟩ := ar_some h
  obtain ⟨x, rfl, hxy⟩ := one_kid hh
  rw [hxy] at hkc
  obtain ⟨c, rfl, hcx, hx2, hx5⟩ := kc_one hkc
  have hnn : n = (2 * c + 1) * (2 * c + 1) := by rw [Ty.cnt, hcx] at hn; exact (capped_some hn).1
  have hM : (0 : Int) < 2 * (c : Int) + 1 := by omega
  have e1 : k / (2 * (c : Int) + 1) * (2 * (c : Int) + 1) + k % (2 * (c : Int) + 1) = k := Int.ediv_mul_add_emod k _
  have e2 : 0 ≤ k % (2 * (c : Int) + 1) := Int.emod_nonneg _ (by omega)
  have e3 : k % (2 * (c : Int) + 1) < 2 * (c : Int) + 1 := Int.emod_lt_of_pos _ hM
  have e4 : 0 ≤ k / (2 * (c : Int) + 1) := Int.ediv_nonneg hk0 (by omega)
  have e5 : k / (2 * (c : Int) + 1) < 2 * (c : Int) + 1 := Int.ediv_lt_of_lt_mul hM (by rw [hnn] at hkn; simpa using hkn)
  have e6 : 0 ≤ k / (2 * (c : Int) + 1) * (2 * (c : Int) + 1) := Int.mul_nonneg e4 (by omega)
  have e7 : k / (2 * (c : Int) + 1) % (2 * (c : Int) + 1) = k / (2 * (c : Int) + 1) := Int.emod_eq_of_lt e4 e5
  refine ⟨x, c, k / (2 * (c : Int) + 1), k % (2 * (c : Int) + 1), hr, hcx, hx2, hx5, hk0, by omega, ?_, ?_, e4, e5, e2, e3, e1, e6, by omega⟩
  · rw [roX, if_pos (Or.inr rfl), outc, if_pos rfl, e7]
  · rw [roX, if_pos (Or.inl rfl), outc, if_neg (by decide)]
end Go.Proofs.Ytknjpdbdchnpeaa

namespace Go.Proofs.Ytknjpdbdchnpeaa
open Go.RowKit

theorem fn_kids {ty : Ty} (h : ty.headB = 62 ∨ ty.headB = 62) : ∃ x y, ty = .fn x y ∧ ty.kids = [x, y] := by
  cases ty with
  | fn x y => exact ⟨x, y, rfl, rfl⟩
  | pair x y => rcases h with h | h <;> cases h
  | choice x y => rcases h with h | h <;> cases h
  | bit => rcases h with h | h <;> cases h
  | thunk x => rcases h with h | h <;> cases h
  | ret x => rcases h with h | h <;> cases h
theorem heads_fn (t : Ty) : decide (0 ≤ Lib.indexByte (⟨#[62]⟩ : ByteArray).data.toList t.headB) = decide (t.headB = 62 ∨ t.headB = 62) := by
  cases t <;> rfl
/-- The element of a function for an element. -/
def atN (k n a : Nat) : Nat := k / n ^ a % n
theorem pw_pos (n a : Nat) (hn : 1 ≤ n) (hn5 : n ≤ 5000) : 1 ≤ pw n a 1 ∧ pw n a 1 ≤ 25000000 := by
  have h := pw_spec n hn hn5 a 1 (by decide)
  rw [Nat.one_mul] at h
  refine ⟨?_, h.2.2⟩
  by_cases hz : pw n a 1 ≤ 5000
  · rw [h.1 hz]; exact Nat.pow_pos hn
  · omega
theorem pw_div (k n a : Nat) (hk : k ≤ 5000) (hn : 1 ≤ n) (hn5 : n ≤ 5000) : k / pw n a 1 % n = atN k n a := by
  have h := pw_spec n hn hn5 a 1 (by decide)
  rw [Nat.one_mul] at h
  unfold atN
  by_cases hz : pw n a 1 ≤ 5000
  · rw [h.1 hz]
  · have := h.2.1 (by omega)
    rw [Nat.div_eq_of_lt (by omega), Nat.div_eq_of_lt (by omega)]
theorem atN_succ (k n a : Nat) : k / n ^ a / n = k / n ^ (a + 1) := by
  rw [Nat.div_div_eq_div_mul, Nat.pow_succ]
/-- What FunAt tells, of the counts around. -/
def faX (o : Option (List Nat)) (k a : Int) : Option Nat := match o with
  | some [x, y] => if 0 ≤ a ∧ a < (x : Int) then some (atN k.toNat y a.toNat) else none
  | _ => none
def faV : Option Nat → Int
  | some n => (n : Int)
  | none => 0
def FaPost (x : Option Nat) (w : World) (e : Ending) (w' : World) : Prop := e = .returned (.tuple #[.int .i64 (faV x), .bool x.isSome]) ∧ Below w.heap.size w w'
theorem wrap_div (k p : Nat) (hk : k ≤ 5000) : wrap64 ((k : Int) / (p : Int)) = ((k / p : Nat) : Int) := by
  have h := Nat.div_le_self k p
  have e : (k : Int) / (p : Int) = ((k / p : Nat) : Int) := rfl
  rw [e]
  have key : ∀ m : Nat, m ≤ k → wrap64 (m : Int) = m := fun m hm => IntWalk.wrap64_in _ (by omega)
  exact key _ h
theorem wrap_divmod (k p n : Nat) (hk : k ≤ 5000) : (wrap64 ((k : Int) / (p : Int))).tmod (n : Int) = ((k / p % n : Nat) : Int) := by
  rw [wrap_div k p hk]; rfl
theorem nat_mod (k n : Nat) : (k : Int) % (n : Int) = ((k % n : Nat) : Int) := rfl
theorem ret_tup {a b : Int} {c : Bool} (h : a = b) : Ending.returned (.tuple #[.int .i64 a, .bool c]) = .returned (.tuple #[.int .i64 b, .bool c]) := by rw [h]

set_option maxRecDepth 100000 in
set_option maxHeartbeats 1000000 in
theorem funAt_any (k a n : Nat) (hk5 : k ≤ 5000) (ha : a ≤ 5000) (hn : 1 ≤ n) (hn5 : n ≤ 5000) (w : World) :
    Calls Try.prog 62 #[.int .i64 (k : Int), .int .i64 (a : Int), .int .i64 (n : Int)] w fun e w' => e = .returned (.int .i64 ((atN k n a : Nat) : Int)) ∧ w = w' := by
  have hp := pw_pos n a hn hn5
  have HD := hid (pw_div k n a hk5 hn hn5)
  have HP := hid (fun W => countPower_any n a hn5 (by omega) W)
  obtain ⟨P, hP⟩ : ∃ P, pw n a 1 = P := ⟨_, rfl⟩
  rw [hP] at hp HD HP
  have hp1 : 1 ≤ P := hp.1
  have hp2 : P ≤ 25000000 := hp.2
  have hd0 : (0 : Int) ≤ (k : Int) / (P : Int) := Int.ediv_nonneg (by omega) (by omega)
  clear hP hp
  go_enter Try.func62, Try.ntmps62
  go_wp2_with (go_at_call 79; refine (HP.out _).mono ?_; rintro e w1 ⟨rfl, rfl⟩)
  go_ret
  exact ⟨ret_int ((wrap_divmod k P n hk5).trans (by rw [HD.out])), rfl⟩

set_option maxRecDepth 100000 in
set_option maxHeartbeats 2000000 in
theorem implFunAt_any (s : ByteArray) (hs : s.size ≤ 400000000) (k a : Int) (w : World) : Calls Try.prog 36 #[.string s, .int .i64 k, .int .i64 a] w (FaPost (faX (around (readTy s) 62 62 k) k a) w) := by
  have HC := hid (fun W => around_any s ⟨#[62]⟩ hs 62 62 (by decide) (by decide) k W heads_fn)
  rcases elem_cases s 62 62 k with ⟨h1, h2⟩ | ⟨ty, t, xs, n, h1, h2, hty, hkc, hh, hn, hk0, hkn, hn5, hw⟩
  · have H1 := hid h1
    have HX := hid (show faX (around (readTy s) 62 62 k) k a = none by rw [h1]; rfl)
    clear h1 h2
    go_enter Try.func36, Try.ntmps36
    go_wp2_with (go_at_call 54; refine (HC.out _).mono ?_; rintro e w1 hp; rw [H1.out] at hp; obtain ⟨rfl, hb1⟩ := hp.none; clear hp)
    go_ret2
    rw [HX.out]
    exact ⟨rfl, hb1⟩
  · obtain ⟨x, y, rfl, hxy⟩ := fn_kids hh
    rw [hxy] at hkc
    obtain ⟨cx, cy, rfl, hcx, hcy, hx2, hx5, hy2, hy5⟩ := kc_two hkc
    have H1 := hid h1
    have HI := hid (fun W => isElement_any a (cx : Int) W)
    by_cases ha : 0 ≤ a ∧ a < (cx : Int)
    · obtain ⟨kn, rfl⟩ := Int.eq_ofNat_of_zero_le hk0
      obtain ⟨an, rfl⟩ := Int.eq_ofNat_of_zero_le ha.1
      have HX := hid (show faX (around (readTy s) 62 62 (kn : Int)) (kn : Int) (an : Int) = some (atN kn cy an) by rw [h1, faX, if_pos ha]; rfl)
      have HP := hid (fun W => funAt_any kn an cy (by omega) (by omega) (by omega) hy5 W)
      rw [decide_eq_true ha] at HI
      clear h1 h2 hty hkc hh hn hw hxy hcx hcy ha
      go_enter Try.func36, Try.ntmps36
      go_wp2_with (first | (go_at_call 54; refine (HC.out _).mono ?_; rintro e w1 hp; rw [H1.out] at hp; obtain ⟨q, c, rfl, hv, hb1⟩ := hp.some; clear hp; obtain ⟨g, rfl, hc1⟩ := hv 0 _ rfl; obtain ⟨g2, hg2, hc2⟩ := hv 1 _ rfl; obtain rfl : g = g2 := (by simpa using hg2); clear hv hg2) | (go_at_call 61; refine (HI.out _).mono ?_; rintro e w2 ⟨rfl, rfl⟩) | (go_at_call 62; refine (HP.out _).mono ?_; rintro e w3 ⟨rfl, rfl⟩))
      go_ret2
      rw [HX.out]
      exact ⟨rfl, hb1⟩
    · have HX := hid (show faX (around (readTy s) 62 62 k) k a = none by rw [h1, faX, if_neg ha])
      rw [decide_eq_false ha] at HI
      clear h1 h2 hty hkc hh hn hw hxy hcx hcy ha
      go_enter Try.func36, Try.ntmps36
      go_wp2_with (first | (go_at_call 54; refine (HC.out _).mono ?_; rintro e w1 hp; rw [H1.out] at hp; obtain ⟨q, c, rfl, hv, hb1⟩ := hp.some; clear hp; obtain ⟨g, rfl, hc1⟩ := hv 0 _ rfl; clear hv) | (go_at_call 61; refine (HI.out _).mono ?_; rintro e w2 ⟨rfl, rfl⟩))
      go_ret2
      rw [HX.out]
      exact ⟨rfl, hb1⟩

end Go.Proofs.Ytknjpdbdchnpeaa

namespace Go.Proofs.Ytknjpdbdchnpeaa
open Go.RowKit

set_option maxRecDepth 100000 in
set_option maxHeartbeats 2000000 in
theorem l1At_any {w0 : World} {S : Nat → Prop} {t : Tree} {h : Hd} (ht : TIn w0 S t h) (x y : Ty) (n : Nat) (hty : t.ty = some (.fn x y)) (hcy : y.cnt = some n) (hn2 : 2 ≤ n) (hn5 : n ≤ 5000) (k a : Nat) (hk : k ≤ 5000) (ha : a ≤ 5000) (w : World) (hk1 : Kept w0 w) (hw : w0.heap.size ≤ w.heap.size) :
    Calls Try.prog 63 #[.agg #[.string h.a, .slice h.p h.l h.c], .int .i64 (k : Int), .int .i64 (a : Int)] w fun e w' => e = .returned (.int .i64 ((atN k n a : Nat) : Int)) ∧ Below w.heap.size w w' := by
  obtain ⟨pa, pp, pl, pc⟩ := h
  obtain ⟨b, A, p1, p2, rfl, rfl, hc3, hcm, hA, hB, ht1, ht2, hi1, hi2⟩ := tree_two ht hty rfl
  have c4 := cell_alloc_old (hk1.cell (hA 2 (by omega))) (.cells #[.string pa, .slice (some ⟨b, 0, none⟩) 3 pc] 56)
  have c5 := cell_alloc_old (hk1.cell (hB 2 (by omega))) (.cells #[.string pa, .slice (some ⟨b, 0, none⟩) 3 pc] 56)
  have HD := hid (fun W hk hs => l1Count_any hi2 y ht2 W hk hs)
  have HV := hid (show cntV y.cnt = (n : Int) by rw [hcy]; rfl)
  have HKW := hid (hk1.alloc hw (.cells #[.string pa, .slice (some ⟨b, 0, none⟩) 3 pc] 56))
  have HS := hid (fun i => atN_succ k n i)
  have HQ := hid (fun i => Nat.le_trans (Nat.div_le_self k (n ^ i)) hk)
  clear ht hA hB ht1 ht2 hi1 hi2 hcy hty hk1
  go_enter Try.func63, Try.ntmps63
  go_wp2_with (go_at_call 51; refine (HD.out _ HKW.out (by simp; omega)).mono ?_; rintro e w1 ⟨he1, hb1⟩; rw [HV.out] at he1; subst he1)
  go_loop [1, 8] (fun v u => ∃ (i q : Nat), i ≤ a ∧ u = .int .i64 (i : Int) ∧ v = .int .i64 (q : Int) ∧ q ≤ 5000 ∧ Hid (q = k / n ^ i)) (fun _ u => a - (intOf u).toNat)
  case atStart => exact ⟨0, k, Nat.zero_le _, rfl, rfl, hk, by show k = _; simp⟩
  case round =>
    obtain ⟨i, q, hi, rfl, rfl, hq5, hq⟩ := hrel
    by_cases hlt : i < a
    · go_wp2_with fail
      go_round
      case rel => exact ⟨i + 1, q / n, by omega, by go_num, by rw [wrap_div q n hq5], Nat.le_trans (Nat.div_le_self _ _) hq5, by show _ = _; rw [hq.out, HS.out]⟩
      case measure => simp [intOf]; omega
    · have hia : i = a := by omega
      have HIA := hid hia
      clear hia
      go_wp2_with fail
      go_ret
      refine ⟨ret_int ((nat_mod q n).trans ?_), ((Below.refl _ _).alloc (by simp) _).trans (hb1.mono (by simp))⟩
      rw [atN, ← HIA.out, ← hq.out]

set_option maxRecDepth 100000 in
set_option maxHeartbeats 2000000 in
theorem specFunAt_any (s : ByteArray) (hs : s.size ≤ 400000000) (k a : Int) (w : World) : Calls Try.prog 37 #[.string s, .int .i64 k, .int .i64 a] w (FaPost (faX (around (readTy s) 62 62 k) k a) w) := by
  have HC := hid (fun W => l1Element_any s hs ⟨#[62]⟩ ⟨#[62]⟩ 62 62 (by rw [Go.ByteArray.toList_eq]) (by rw [Go.ByteArray.toList_eq]) (by decide) (by decide) k W)
  rcases elem_cases s 62 62 k with ⟨h1, h2⟩ | ⟨ty, t, xs, n, h1, h2, hty, hkc, hh, hn, hk0, hkn, hn5, hw⟩
  · have HX := hid (show faX (around (readTy s) 62 62 k) k a = none by rw [h1]; rfl)
    have H2 := hid h2
    clear h1 h2
    go_enter Try.func37, Try.ntmps37
    go_wp2_with (go_at_call 55; refine (HC.out _).mono ?_; rintro e w1 hp; rw [H2.out] at hp; obtain ⟨pa, pp, pl, pc, rfl, hpl, hb1⟩ := hp.none; clear hp)
    go_ret2
    rw [HX.out]
    exact ⟨rfl, hb1.alloc hb1.size _⟩
  · obtain ⟨x, y, rfl, hxy⟩ := fn_kids hh
    rw [hxy] at hkc
    obtain ⟨cx, cy, rfl, hcx, hcy, hx2, hx5, hy2, hy5⟩ := kc_two hkc
    have H2 := hid h2
    have HTY := hid hty
    have HXY := hid hxy
    have HV := hid (show cntV x.cnt = (cx : Int) by rw [hcx]; rfl)
    have HI := hid (fun W => l6In_any a 0 ((cx : Int) - 1) W)
    by_cases ha : 0 ≤ a ∧ a < (cx : Int)
    · obtain ⟨kn, rfl⟩ := Int.eq_ofNat_of_zero_le hk0
      obtain ⟨an, rfl⟩ := Int.eq_ofNat_of_zero_le ha.1
      have HX := hid (show faX (around (readTy s) 62 62 (kn : Int)) (kn : Int) (an : Int) = some (atN kn cy an) by rw [h1, faX, if_pos ha]; rfl)
      have HO := hid (fun (w1 : World) (t : Tree) (hd : Hd) (S : Nat → Prop) (ht : TIn w1 S t hd) (hty : t.ty = some (.fn x y)) W h1 h2 => l1At_any ht x y cy hty hcy hy2 hy5 kn an (by omega) (by omega) W h1 h2)
      rw [decide_eq_true (show 0 ≤ (an : Int) ∧ (an : Int) ≤ (cx : Int) - 1 by omega)] at HI
      clear h1 h2 hty hkc hh hn hw hxy hcx hcy ha
      go_enter Try.func37, Try.ntmps37
      go_wp2_with (first
        | (go_at_call 55; refine (HC.out _).mono ?_; rintro e w1 hp; rw [H2.out] at hp; obtain ⟨pa, pp, pl, pc, rfl, hb1, ht⟩ := hp.some; clear hp; have HT := hid ht; obtain ⟨b, A, p1, p2, rfl, rfl, hc3, hcm, hA, hB, ht1, ht2, hi1, hi2⟩ := tree_two ht HTY.out HXY.out; have c2 := cell_alloc_old (hA 1 (by omega)) (.cells #[.string pa, .slice (some ⟨b, 0, none⟩) 3 pc] 56); have c3 := cell_alloc_old (hB 1 (by omega)) (.cells #[.string pa, .slice (some ⟨b, 0, none⟩) 3 pc] 56); have HD := hid (fun W hk hs => l1Count_any hi1 x ht1 W hk hs); clear ht hA hB ht1 ht2 hi1 hi2)
        | (go_at_call 51; refine (HD.out _ ((Kept.refl _).alloc (Nat.le_refl _) _) (by simp)).mono ?_; rintro e w2 ⟨he2, hb2⟩; rw [HV.out] at he2; subst he2; have k0 := cells_of_pair (block_below (heap_new w1 (.cells #[.string pa, .slice (some ⟨b, 0, none⟩) 3 pc] 56) _ rfl) hb2 (by simp)))
        | (go_at_call 59; refine (HI.out _).mono ?_; rintro e w3 ⟨rfl, rfl⟩)
        | (go_at_call 63; refine (HO.out _ _ _ _ HT.out HTY.out _ (((Kept.refl _).alloc (Nat.le_refl _) _).below hb2 (by simp)) (by have := hb2.size; simp at this; omega)).mono ?_; rintro e w4 ⟨rfl, hb4⟩))
      go_ret2
      rw [HX.out]
      have s1 := hb1.size
      have s2 := hb2.size
      simp at s2
      exact ⟨rfl, hb1.trans (((Below.refl _ _).alloc s1 _).trans ((hb2.mono (by simp; omega)).trans (hb4.mono (by omega))))⟩
    · have HX := hid (show faX (around (readTy s) 62 62 k) k a = none by rw [h1, faX, if_neg ha])
      rw [decide_eq_false (show ¬ (0 ≤ a ∧ a ≤ (cx : Int) - 1) by omega)] at HI
      clear h1 h2 hty hkc hh hn hw hxy hcx hcy ha
      go_enter Try.func37, Try.ntmps37
      go_wp2_with (first
        | (go_at_call 55; refine (HC.out _).mono ?_; rintro e w1 hp; rw [H2.out] at hp; obtain ⟨pa, pp, pl, pc, rfl, hb1, ht⟩ := hp.some; clear hp; obtain ⟨b, A, p1, p2, rfl, rfl, hc3, hcm, hA, hB, ht1, ht2, hi1, hi2⟩ := tree_two ht HTY.out HXY.out; have c2 := cell_alloc_old (hA 1 (by omega)) (.cells #[.string pa, .slice (some ⟨b, 0, none⟩) 3 pc] 56); have c3 := cell_alloc_old (hB 1 (by omega)) (.cells #[.string pa, .slice (some ⟨b, 0, none⟩) 3 pc] 56); have HD := hid (fun W hk hs => l1Count_any hi1 x ht1 W hk hs); clear ht hA hB ht1 ht2 hi1 hi2)
        | (go_at_call 51; refine (HD.out _ ((Kept.refl _).alloc (Nat.le_refl _) _) (by simp)).mono ?_; rintro e w2 ⟨he2, hb2⟩; rw [HV.out] at he2; subst he2)
        | (go_at_call 59; refine (HI.out _).mono ?_; rintro e w3 ⟨rfl, rfl⟩))
      go_ret2
      rw [HX.out]
      have s1 := hb1.size
      exact ⟨rfl, hb1.trans (((Below.refl _ _).alloc s1 _).trans (hb2.mono (by simp; omega)))⟩
end Go.Proofs.Ytknjpdbdchnpeaa
