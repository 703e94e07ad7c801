/- A list behind a drop. -/
import Derived.Test.YtfogjomebcponaaDoorKit
namespace Go.Proofs.YtfogjomebcponaaDoor
open Go.RowKit

/-- A list's row at an index, behind a drop. -/
theorem drop_at {α : Type} {l : List α} {i : Nat} {x : α} (h : l[i]? = some x) : l.drop i = x :: l.drop (i + 1) := by
  have e := List.getElem?_eq_some_iff.1 h
  rw [List.drop_eq_getElem_cons e.1, e.2]
/-- Pointers to blocks. -/
def ptrs (A : Nat → Nat) (n : Nat) : List Value := (List.range n).map fun i => Value.pointer (some ⟨A i, 0, none⟩)
theorem ptrs_length (A : Nat → Nat) (n : Nat) : (ptrs A n).length = n := by simp [ptrs]
theorem ptrs_get (A : Nat → Nat) {n i : Nat} (h : i < n) : (ptrs A n)[i]? = some (.pointer (some ⟨A i, 0, none⟩)) := by simp [ptrs, h]
theorem ptrs_snoc (A : Nat → Nat) (n a : Nat) : ptrs (fun i => if i = n then a else A i) (n + 1) = ptrs A n ++ [.pointer (some ⟨a, 0, none⟩)] := by
  unfold ptrs
  rw [List.range_succ, List.map_append]
  congr 1
  · apply List.map_congr_left
    intro i hi
    have hin : i < n := by simpa using hi
    show Value.pointer (some ⟨if i = n then a else A i, 0, none⟩) = _
    rw [if_neg (by omega)]
  · simp
/-- A row of one-cell values in a block of a set. -/
def RIn (w : World) (S : Nat → Prop) (p : Option Addr) (l : List Value) : Prop := ∀ i v, l[i]? = some v → ∃ g, p = some ⟨g, 0, none⟩ ∧ S g ∧ w.cell? ⟨g, i, none⟩ = some v
theorem RIn.keep {w w' : World} {S S' : Nat → Prop} {p : Option Addr} {l : List Value} (h : RIn w S p l) (hb : ∀ k, S k → k < w.heap.size → w'.heap[k]? = w.heap[k]?) (hS : ∀ k, S k → k < w.heap.size → S' k) : RIn w' S' p l := fun i v hv =>
  let ⟨g, hp, hg, hc⟩ := h i v hv
  have hl := World.block_lt_of_cell? w _ hc
  ⟨g, hp, hS g hg hl, (World.cell?_of_block (w := w) (a := ⟨g, i, none⟩) (hb g hg hl)).trans hc⟩

theorem own_cap {w : World} {base n c size : Nat} {e : TypeId} {p : Option Addr} {xs : List Value} (h : w.ownsRow base e size (.slice p n c) n xs) : n ≤ c := by
  rcases h.2 with ⟨_, hn⟩ | ⟨g, cap, cur, hv, _, _, hnc, _⟩
  · omega
  · obtain ⟨_, rfl⟩ : p = some ⟨g, 0, none⟩ ∧ c = cap := by simpa using hv
    exact hnc
end Go.Proofs.YtfogjomebcponaaDoor
