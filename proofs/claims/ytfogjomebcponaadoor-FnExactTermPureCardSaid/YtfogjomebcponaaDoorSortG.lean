/- The model's sort of a tree. -/
import Derived.Test.YtfogjomebcponaaDoorSortF
namespace Go.Proofs.YtfogjomebcponaaDoor
open Go.RowKit

theorem loS_size (l : List Sg) : (loS l).size = l.length := by simp [loS, ByteArray.size]
theorem loS_get (l : List Sg) (i : Nat) (c : Sg) (h : l[i]? = some c) (hi : i < (loS l).size) : (loS l)[i] = c.lo := by
  have h1 := toList_get (loS l) i hi
  rw [Go.ByteArray.toList_eq] at h1
  simp [loS, h] at h1
  exact h1.symm
theorem srt_no {q : Tree} {qs : List Tree} (h : shape q.text.toList = [] ∨ (shape q.text.toList).length ≠ qs.length) : Tree.srt (.node (q :: qs)) = none := by
  rw [Tree.srt, if_pos h]
theorem srt_go {q : Tree} {qs : List Tree} (h0 : shape q.text.toList ≠ []) (h : (shape q.text.toList).length = qs.length) :
    Tree.srt (.node (q :: qs)) = if Tree.fits (shape q.text.toList) qs = true ∧ ¬ (q.text.toList = [115, 112, 108, 105, 116] ∧ (qs[1]?.map (·.text.toList)) = (qs[2]?.map (·.text.toList))) then some (isValHead q.text.toList) else none := by
  rw [Tree.srt, if_neg (fun hh => hh.elim h0 (fun e => e h))]
theorem srt_bad {q : Tree} {qs : List Tree} (h0 : shape q.text.toList ≠ []) (h : (shape q.text.toList).length = qs.length) (hf : Tree.fits (shape q.text.toList) qs = false) : Tree.srt (.node (q :: qs)) = none := by
  rw [srt_go h0 h, if_neg (fun hh => by rw [hf] at hh; cases hh.1)]
theorem srt_plain {q : Tree} {qs : List Tree} (h0 : shape q.text.toList ≠ []) (h : (shape q.text.toList).length = qs.length) (hf : Tree.fits (shape q.text.toList) qs = true) (hs : (q.text.toList == [115, 112, 108, 105, 116]) = false) : Tree.srt (.node (q :: qs)) = some (isValHead q.text.toList) := by
  rw [srt_go h0 h, if_pos ⟨hf, fun hh => by rw [hh.1] at hs; simp at hs⟩]
theorem srt_split {q : Tree} {qs : List Tree} (h0 : shape q.text.toList ≠ []) (h : (shape q.text.toList).length = qs.length) (hf : Tree.fits (shape q.text.toList) qs = true) (hs : q.text.toList = [115, 112, 108, 105, 116]) {x y : Tree} (hx : qs[1]? = some x) (hy : qs[2]? = some y) :
    Tree.srt (.node (q :: qs)) = if x.text.toList == y.text.toList then none else some false := by
  rw [srt_go h0 h, hx, hy]
  cases e : x.text.toList == y.text.toList with
  | true =>
    rw [if_neg (fun hh => hh.2 ⟨hs, by simpa using e⟩)]; rfl
  | false =>
    rw [if_pos ⟨hf, fun hh => by have := hh.2; simp at this; simp [this] at e⟩, hs]; rfl
theorem isVal_head {h : List UInt8} (h0 : shape h ≠ []) : isValHead h = (h == [112, 97, 105, 114] || h == [116, 104, 117, 110, 107]) := by
  have n1 : h ≠ [110, 97, 109, 101] := fun e => by subst e; exact h0 rfl
  have n2 : h ≠ [98, 105, 116] := fun e => by subst e; exact h0 rfl
  unfold isValHead
  by_cases e1 : h = [112, 97, 105, 114]
  · subst e1; rfl
  · by_cases e2 : h = [116, 104, 117, 110, 107]
    · subst e2; rfl
    · simp [n1, n2, e1, e2]

set_option maxRecDepth 100000 in
set_option maxHeartbeats 2000000 in
theorem srt_atom (w0 : World) (s : ByteArray) (hne : s.size ≠ 0) (hm : s.size ≤ 400000000) : SrtAsk w0 (.atom s) ⟨s, none, 0, 0⟩ := by
  intro w hk hw
  have he := isEmpty_not s hne
  have HN := hid (fun W => l2Name_any s hm W)
  have HT := hid (show Tree.srt (.atom s) = if s.toList = [48] ∨ s.toList = [49] ∨ nameB s.toList = true then some true else none by rw [Tree.srt])
  clear hk hw
  cases e0 : s.toList == [48] with
  | true =>
    have HQ := hid (show Tree.srt (.atom s) = some true by rw [HT.out, if_pos (Or.inl (by simpa using e0))])
    go_enter Tryd.func27, Tryd.ntmps27
    go_wp2_with fail
    go_ret
    exact ⟨ret_str (by rw [HQ.out]; rfl), (Below.refl _ _).alloc (Nat.le_refl _) _⟩
  | false =>
    cases e1 : s.toList == [49] with
    | true =>
      have HQ := hid (show Tree.srt (.atom s) = some true by rw [HT.out, if_pos (Or.inr (Or.inl (by simpa using e1)))])
      go_enter Tryd.func27, Tryd.ntmps27
      go_wp2_with fail
      go_ret
      exact ⟨ret_str (by rw [HQ.out]; rfl), (Below.refl _ _).alloc (Nat.le_refl _) _⟩
    | false =>
      cases e2 : nameB s.toList with
      | true =>
        have HQ := hid (show Tree.srt (.atom s) = some true by rw [HT.out, if_pos (Or.inr (Or.inr e2))])
        have HE := hid e2
        clear e2
        go_enter Tryd.func27, Tryd.ntmps27
        go_wp2_with (go_at_call 42; refine (HN.out _).mono ?_; rintro e w1 ⟨rfl, rfl⟩; rw [HE.out])
        go_ret
        exact ⟨ret_str (by rw [HQ.out]; rfl), (Below.refl _ _).alloc (Nat.le_refl _) _⟩
      | false =>
        have HQ := hid (show Tree.srt (.atom s) = none by rw [HT.out, if_neg (fun h => by rcases h with h | h | h; (· simp [h] at e0); (· simp [h] at e1); (· rw [e2] at h; cases h))])
        have HE := hid e2
        clear e2
        go_enter Tryd.func27, Tryd.ntmps27
        go_wp2_with (go_at_call 42; refine (HN.out _).mono ?_; rintro e w1 ⟨rfl, rfl⟩; rw [HE.out])
        go_ret
        exact ⟨ret_str (by rw [HQ.out]; rfl), (Below.refl _ _).alloc (Nat.le_refl _) _⟩
end Go.Proofs.YtfogjomebcponaaDoor
