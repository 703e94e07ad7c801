/- Merged: JoinX. -/
import Derived.Test.YtgogoekfidbpdaaDoorShelf
import Derived.Test.YtgogoekfidbpdaaDoorSQSJoinP
namespace Go.Proofs.YtgogoekfidbpdaaDoor
open Go.RowKit

set_option maxRecDepth 100000 in
set_option maxHeartbeats 1000000 in
theorem list_any (ps : List Tree) (n g c : Nat) (hn : (ps.map Tree.txt).length = n) (hnc : n ≤ c) (hs : (Tree.node ps).write.length ≤ 20000) (hn2 : n ≤ 4) (w : World) (hg : g < w.heap.size)
    (hc : ∀ j p, ps[j]? = some p → w.cell? ⟨g, 0 + j, none⟩ = some (.string p.txt)) :
    Calls Tryd.prog 41 #[.slice (some ⟨g, 0, none⟩) n c] w fun e w' => e = .returned (.string (Tree.node ps).txt) ∧ Below w.heap.size w w' := by
  have HC := hid (fun j x (hj : (ps.map Tree.txt)[j]? = some x) => (show w.cell? ⟨g, 0 + j, none⟩ = some (.string x) from by
    rw [List.getElem?_map] at hj
    cases h : ps[j]? with
    | none => rw [h] at hj; simp at hj
    | some p => rw [h] at hj; simp at hj; subst hj; exact hc j p h))
  have hll := lst_len ps
  have HJB := hid (show (Lib.join ((ps.map Tree.txt).map (·.data.toList)) ({ data := #[32] } : ByteArray).data.toList).length ≤ 140737488355328 by omega)
  have HJ2 := hid (show (Lib.join ((ps.map Tree.txt).map (·.data.toList)) ({ data := #[32] } : ByteArray).data.toList).length ≤ 20000 by omega)
  have HJO := hid (Tryd.strings_Join g 0 c (ps.map Tree.txt) ({ data := #[32] } : ByteArray) w HC.out hg (show (ps.map Tree.txt).length ≤ 140737488355328 by omega) (by omega) HJB.out)
  rw [hn] at HJO
  have HL := hid (lst_txt ps)
  clear hc hs hll hn
  go_enter Tryd.func41, Tryd.ntmps41
  go_wp2_with (go_at_call 56; refine (HJO.out).mono ?_; rintro e w4 ⟨he4, hb4⟩; obtain ⟨J, hJ⟩ : ∃ J, J = ({ data := (Lib.join ((ps.map Tree.txt).map (·.data.toList)) ({ data := #[32] } : ByteArray).data.toList).toArray } : ByteArray) := ⟨_, rfl⟩; rw [← hJ] at he4; subst he4; have hJs : J.size ≤ 20000 := (by rw [hJ]; simpa [ByteArray.size] using HJ2.out); have HJ := hid hJ; clear hJ)
  go_ret
  refine ⟨ret_str ?_, hb4⟩
  rw [← HL.out, lstB, HJ.out]

/-- A row of texts that a call has laid. -/
theorem row_cells {w : World} {g : Nat} {cs : Array Value} {t : TypeId} (h : w.heap[g]? = some (.cells cs t (0, 0))) {ps : List Tree} (hcs : cs.toList = ps.map (fun p => Value.string p.txt)) :
    ∀ j p, ps[j]? = some p → w.cell? ⟨g, 0 + j, none⟩ = some (.string p.txt) := by
  intro j p hj
  have e : cs[0 + j]? = some (.string p.txt) := by
    rw [Nat.zero_add, ← Array.getElem?_toList, hcs, List.getElem?_map, hj]; rfl
  simp only [World.cell?, h]
  exact e
end Go.Proofs.YtgogoekfidbpdaaDoor
