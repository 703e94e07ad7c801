/- Merged: JoinP. -/
import Derived.Lib.Join
import Derived.Test.YtgogoekfidbpdaaDoorSQ0
namespace Go.Proofs.YtgogoekfidbpdaaDoor
open Go.RowKit

/-- What list makes of texts. -/
def lstB (ps : List ByteArray) : ByteArray := ({ data := #[40] } : ByteArray) ++ ⟨(Lib.join (ps.map (·.data.toList)) ({ data := #[32] } : ByteArray).data.toList).toArray⟩ ++ ({ data := #[41] } : ByteArray)
theorem joinTail_writes : ∀ ps : List Tree, Lib.joinTail [32] (ps.map fun t => t.txt.data.toList) = Tree.writes ps
  | [] => rfl
  | p :: ps => by
    have h := joinTail_writes ps
    rw [Lib.joinTail] at h ⊢
    rw [List.map_cons, List.map_cons, List.flatten_cons, h, Tree.writes]; simp [Tree.txt]
theorem join_trees (ps : List Tree) : Lib.join ((ps.map Tree.txt).map (·.data.toList)) ({ data := #[32] } : ByteArray).data.toList = Tree.join ps := by
  have e : ({ data := #[32] } : ByteArray).data.toList = [32] := rfl
  rw [e, List.map_map]
  cases ps with
  | nil => rfl
  | cons p ps =>
    have h := joinTail_writes ps
    rw [List.map_cons, Lib.join_cons, Tree.join]
    exact congrArg (p.write ++ ·) h
theorem lst_txt (ps : List Tree) : lstB (ps.map Tree.txt) = (Tree.node ps).txt := by
  apply ByteArray.ext; apply Array.toList_inj.1
  rw [lstB, join_trees, Tree.txt, write_node]
  simp
theorem lst_len (ps : List Tree) : (Lib.join ((ps.map Tree.txt).map (·.data.toList)) ({ data := #[32] } : ByteArray).data.toList).length + 2 = (Tree.node ps).write.length := by
  rw [join_trees, write_node]; simp
theorem atom_txt (s : ByteArray) : (Tree.atom s).txt = s := by
  apply ByteArray.ext; apply Array.toList_inj.1; rfl
end Go.Proofs.YtgogoekfidbpdaaDoor
