/- Plain functions on terms: how often a name stands free, effects, parts of what is well formed. Nothing here speaks of a program. -/
import Derived.Test.YtfogjomebcponaaDoorTermU0
import Derived.Test.YtfogjomebcponaaDoorSortG
namespace Go.Proofs.YtfogjomebcponaaDoor
open Go.RowKit

mutual
/-- How often a name stands free in a tree. -/
def Tree.uses (s : List UInt8) : Tree → Nat
  | .atom a => if a.toList = s then 1 else 0
  | .node [] => 0
  | .node (h :: ps) => Tree.usesL s (xsOf (shape h.text.toList) ps) (shape h.text.toList) ps
def Tree.usesL (s : List UInt8) (xs : List ByteArray) : List Sg → List Tree → Nat
  | [], _ => 0
  | _ :: _, [] => 0
  | c :: cs, p :: ps => (if c.isK = true ∧ ¬ (cs = [] ∧ hasB xs s = true) then Tree.uses s p else 0) + Tree.usesL s xs cs ps
end
/-- How often a name stands in a list. -/
def cntB (s : List UInt8) (l : List ByteArray) : Nat := l.countP fun x => decide (x.toList = s)
theorem cntB_append (s : List UInt8) (a b : List ByteArray) : cntB s (a ++ b) = cntB s a + cntB s b := by simp [cntB]
theorem uses_list (s : List UInt8) (bd xs : List ByteArray) : ∀ (cs : List Sg) (ps : List Tree), (∀ p ∈ ps, ∀ bd, cntB s (p.free bd) = if hasB bd s = true then 0 else p.uses s) →
    cntB s (Tree.frees bd xs cs ps) = if hasB bd s = true then 0 else Tree.usesL s xs cs ps
  | [], _, _ => by simp [Tree.frees, Tree.usesL, cntB]
  | _ :: _, [], _ => by simp [Tree.frees, Tree.usesL, cntB]
  | c :: cs, p :: ps, ih => by
    have ih' : ∀ p ∈ ps, ∀ bd, cntB s (p.free bd) = if hasB bd s = true then 0 else p.uses s := fun q hq => ih q (List.mem_cons_of_mem _ hq)
    have hp := ih p (List.mem_cons_self ..)
    rw [Tree.frees, Tree.usesL, cntB_append, uses_list s bd xs cs ps ih']
    cases hk : c.isK with
    | false => simp [cntB]
    | true =>
      simp only [if_true, true_and]
      by_cases hc : cs = []
      · rw [if_pos hc, hp, hasB_append]
        cases hb : hasB bd s <;> cases hx : hasB xs s <;> simp [hc]
      · rw [if_neg hc, hp]
        cases hb : hasB bd s <;> simp [hc]
theorem uses_free (s : List UInt8) (hs : nameB s = true) (t : Tree) (bd : List ByteArray) : cntB s (t.free bd) = if hasB bd s = true then 0 else t.uses s := by
  match t with
  | .atom a =>
    rw [Tree.free, Tree.uses]
    by_cases e : a.toList = s
    · rw [if_pos e, e]
      cases hb : hasB bd s
      · rw [if_pos ⟨hs, rfl⟩]; simp [cntB, e]
      · rw [if_neg (fun h => by cases h.2)]; simp [cntB]
    · rw [if_neg e]
      split
      · simp [cntB, e]
      · simp [cntB]
  | .node [] => simp [Tree.free, Tree.uses, cntB]
  | .node (q :: ps) =>
    rw [Tree.free, Tree.uses]
    exact uses_list s bd _ _ ps (fun p hp bd => uses_free s hs p bd)
termination_by t
decreasing_by
  have := List.sizeOf_lt_of_mem hp
  simp; omega
/-- What is well formed: a sort is told. -/
theorem wf_node {q : Tree} {qs : List Tree} (h : Tree.srt (.node (q :: qs)) ≠ none) : shape q.text.toList ≠ [] ∧ (shape q.text.toList).length = qs.length ∧ Tree.fits (shape q.text.toList) qs = true := by
  by_cases hno : shape q.text.toList = [] ∨ (shape q.text.toList).length ≠ qs.length
  · exact absurd (srt_no hno) h
  · have h0 : shape q.text.toList ≠ [] := fun e => hno (Or.inl e)
    have hsl : (shape q.text.toList).length = qs.length := by
      rcases Nat.decEq (shape q.text.toList).length qs.length with h | h
      · exact absurd (Or.inr h) hno
      · exact h
    refine ⟨h0, hsl, ?_⟩
    cases hf : Tree.fits (shape q.text.toList) qs with
    | true => rfl
    | false => exact absurd (srt_bad h0 hsl hf) h
theorem fits_get : ∀ (cs : List Sg) (ps : List Tree) (i : Nat) (c : Sg) (p : Tree), Tree.fits cs ps = true → cs[i]? = some c → ps[i]? = some p → fit1 c p = true
  | [], _, i, c, p, _, h, _ => by simp at h
  | _ :: _, [], i, c, p, _, _, h => by simp at h
  | d :: cs, q :: ps, i, c, p, hf, h1, h2 => by
    rw [fits_cons, Bool.and_eq_true] at hf
    cases i with
    | zero => simp at h1 h2; subst h1; subst h2; exact hf.1
    | succ i => exact fits_get cs ps i c p hf.2 (by simpa using h1) (by simpa using h2)
theorem fit1_wf {c : Sg} {p : Tree} (h : fit1 c p = true) (hc : c.isK = true) : p.srt ≠ none := by
  cases c with
  | X => cases hc
  | A => cases hc
  | C => cases hc
  | V => unfold fit1 at h; simp at h; rw [h]; simp
  | M => unfold fit1 at h; simp at h; rw [h]; simp
end Go.Proofs.YtfogjomebcponaaDoor
