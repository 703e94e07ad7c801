/- A tree's text, purely. -/
import Derived.Test.YtfogjomebcponaaDoorWriteP
namespace Go.Proofs.YtfogjomebcponaaDoor
open Go.RowKit

/-- Parts with blanks between them. -/
def Tree.join : List Tree → List UInt8
  | [] => []
  | p :: ps => p.write ++ Tree.writes ps
theorem write_node (ps : List Tree) : (Tree.node ps).write = 40 :: (Tree.join ps ++ [41]) := by
  cases ps with
  | nil => rfl
  | cons p ps => rw [Tree.write, Tree.join]; simp
theorem writes_append (a b : List Tree) : Tree.writes (a ++ b) = Tree.writes a ++ Tree.writes b := by
  induction a with
  | nil => rfl
  | cons p a ih => simp [Tree.writes, ih]
theorem join_append (a b : List Tree) (h : a ≠ []) : Tree.join (a ++ b) = Tree.join a ++ Tree.writes b := by
  cases a with
  | nil => exact absurd rfl h
  | cons p a => simp [Tree.join, writes_append]
theorem join_take (ps : List Tree) (j : Nat) : (Tree.join (ps.take j)).length ≤ (Tree.join ps).length := by
  by_cases h : ps.take j = []
  · rw [h]; simp [Tree.join]
  · conv => rhs; rw [← List.take_append_drop j ps, join_append _ _ h]
    simp
theorem join_snoc (ps : List Tree) (j : Nat) (p : Tree) (h : ps[j]? = some p) (hj : 0 < j) : Tree.join (ps.take (j + 1)) = Tree.join (ps.take j) ++ 32 :: p.write := by
  rw [List.take_add_one, h]
  have hlt := (List.getElem?_eq_some_iff.1 h).1
  rw [join_append _ _ (by intro e; have := congrArg List.length e; rw [List.length_take, List.length_nil] at this; omega)]
  simp [Tree.writes]
theorem join_first (ps : List Tree) (p : Tree) (h : ps[0]? = some p) : Tree.join (ps.take 1) = p.write := by
  cases ps with
  | nil => simp at h
  | cons q ps => simp at h; subst h; simp [Tree.join, Tree.writes]
theorem join_part (ps : List Tree) (j : Nat) (p : Tree) (h : ps[j]? = some p) : p.write.length ≤ (Tree.join ps).length := by
  have h1 := join_take ps (j + 1)
  by_cases hj : j = 0
  · subst hj; rw [join_first ps p h] at h1; exact h1
  · rw [join_snoc ps j p h (by omega)] at h1; simp at h1; omega
theorem size_toList (a : ByteArray) : a.size = a.toList.length := by rw [Go.ByteArray.toList_eq]; simp
/-- A tree's text. -/
def Tree.txt (t : Tree) : ByteArray := ⟨t.write.toArray⟩
theorem txt_toList (t : Tree) : t.txt.toList = t.write := by rw [Go.ByteArray.toList_eq]; rfl
theorem txt_size (t : Tree) : t.txt.size = t.write.length := by simp [Tree.txt, ByteArray.size]
end Go.Proofs.YtfogjomebcponaaDoor
