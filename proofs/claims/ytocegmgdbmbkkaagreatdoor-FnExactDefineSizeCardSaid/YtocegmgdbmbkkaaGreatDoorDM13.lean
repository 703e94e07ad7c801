/- Merged: LstP, LstX. -/
import Derived.Lib.Join
import Derived.Test.YtocegmgdbmbkkaaGreatDoorDM11
namespace Go.Proofs.YtocegmgdbmbkkaaGreatDoor
open Go.RowKit

/-- What list makes of texts. -/
def lstB (ps : List ByteArray) : ByteArray := ({ data := #[40] } : ByteArray) ++ ⟨(Lib.join (ps.map (·.data.toList)) ({ data := #[32] } : ByteArray).data.toList).toArray⟩ ++ ({ data := #[41] } : ByteArray)
theorem joinTail_writes : ∀ ps : List Tree, Lib.joinTail [32] (ps.map fun t => t.txt.data.toList) = Tree.writes ps
  | [] => rfl
  | p :: ps => by
    have h := joinTail_writes ps
    rw [Lib.joinTail] at h ⊢
    rw [List.map_cons, List.map_cons, List.flatten_cons, h, Tree.writes]; simp [Tree.txt]
theorem join_trees (ps : List Tree) : Lib.join ((ps.map Tree.txt).map (·.data.toList)) ({ data := #[32] } : ByteArray).data.toList = Tree.join ps := by
  have e : ({ data := #[32] } : ByteArray).data.toList = [32] := rfl
  rw [e, List.map_map]
  cases ps with
  | nil => rfl
  | cons p ps =>
    have h := joinTail_writes ps
    rw [List.map_cons, Lib.join_cons, Tree.join]
    exact congrArg (p.write ++ ·) h
theorem lst_txt (ps : List Tree) : lstB (ps.map Tree.txt) = (Tree.node ps).txt := by
  apply ByteArray.ext; apply Array.toList_inj.1
  rw [lstB, join_trees, Tree.txt, write_node]
  simp
theorem lst_len (ps : List Tree) : (Lib.join ((ps.map Tree.txt).map (·.data.toList)) ({ data := #[32] } : ByteArray).data.toList).length + 2 = (Tree.node ps).write.length := by
  rw [join_trees, write_node]; simp
theorem atom_txt (s : ByteArray) : (Tree.atom s).txt = s := by
  apply ByteArray.ext; apply Array.toList_inj.1; rfl
theorem tree_txt (t : Ty) : t.tree.txt = t.text := by rw [Tree.txt, ty_tree_write]; rfl
end Go.Proofs.YtocegmgdbmbkkaaGreatDoor

namespace Go.Proofs.YtocegmgdbmbkkaaGreatDoor
open Go.RowKit

set_option maxRecDepth 100000 in
set_option maxHeartbeats 1000000 in
theorem list_any (ps : List Tree) (n g c : Nat) (hn : (ps.map Tree.txt).length = n) (hnc : n ≤ c) (hs : (Tree.node ps).write.length ≤ 20000) (hn2 : n ≤ 4) (w : World) (hg : g < w.heap.size)
    (hc : ∀ j p, ps[j]? = some p → w.cell? ⟨g, 0 + j, none⟩ = some (.string p.txt)) :
    Calls Tryz.prog 55 #[.slice (some ⟨g, 0, none⟩) n c] w fun e w' => e = .returned (.string (Tree.node ps).txt) ∧ Below w.heap.size w w' := by
  have HC := hid (fun j x (hj : (ps.map Tree.txt)[j]? = some x) => (show w.cell? ⟨g, 0 + j, none⟩ = some (.string x) from by
    rw [List.getElem?_map] at hj
    cases h : ps[j]? with
    | none => rw [h] at hj; simp at hj
    | some p => rw [h] at hj; simp at hj; subst hj; exact hc j p h))
  have hll := lst_len ps
  have HJB := hid (show (Lib.join ((ps.map Tree.txt).map (·.data.toList)) ({ data := #[32] } : ByteArray).data.toList).length ≤ 140737488355328 by omega)
  have HJ2 := hid (show (Lib.join ((ps.map Tree.txt).map (·.data.toList)) ({ data := #[32] } : ByteArray).data.toList).length ≤ 20000 by omega)
  have HJO := hid (Tryz.strings_Join g 0 c (ps.map Tree.txt) ({ data := #[32] } : ByteArray) w HC.out hg (show (ps.map Tree.txt).length ≤ 140737488355328 by omega) (by omega) HJB.out)
  rw [hn] at HJO
  have HL := hid (lst_txt ps)
  clear hc hs hll hn
  go_enter Tryz.func55, Tryz.ntmps55
  go_wp2_with (go_at_call 75; refine (HJO.out).mono ?_; rintro e w4 ⟨he4, hb4⟩; obtain ⟨J, hJ⟩ : ∃ J, J = ({ data := (Lib.join ((ps.map Tree.txt).map (·.data.toList)) ({ data := #[32] } : ByteArray).data.toList).toArray } : ByteArray) := ⟨_, rfl⟩; rw [← hJ] at he4; subst he4; have hJs : J.size ≤ 20000 := (by rw [hJ]; simpa [ByteArray.size] using HJ2.out); have HJ := hid hJ; clear hJ)
  go_ret
  refine ⟨ret_str ?_, hb4⟩
  rw [← HL.out, lstB, HJ.out]

/-- A row of texts that a call has laid. -/
theorem row_cells {w : World} {g : Nat} {cs : Array Value} {t : TypeId} (h : w.heap[g]? = some (.cells cs t (0, 0))) {ps : List Tree} (hcs : cs.toList = ps.map (fun p => Value.string p.txt)) :
    ∀ j p, ps[j]? = some p → w.cell? ⟨g, 0 + j, none⟩ = some (.string p.txt) := by
  intro j p hj
  have e : cs[0 + j]? = some (.string p.txt) := by
    rw [Nat.zero_add, ← Array.getElem?_toList, hcs, List.getElem?_map, hj]; rfl
  simp only [World.cell?, h]
  exact e
theorem retB_txt (k : Nat) : (retB k).txt = ({ data := #[40, 114, 101, 116, 117, 114, 110, 32, (48 + k).toUInt8, 41] } : ByteArray) := by
  simp [retB, bitT, bitS, wReturn, Tree.txt, Tree.write, Tree.writes]
theorem retB_len (k : Nat) : (retB k).write.length = 10 := by
  simp [retB, bitT, bitS, wReturn, Tree.write, Tree.writes]
theorem atom_w (s : ByteArray) : (Tree.atom s).write = s.data.toList := rfl

set_option maxRecDepth 100000 in
set_option maxHeartbeats 1000000 in
theorem testBit_any (v : Tree) (k : Nat) (hv : v.write.length ≤ 1000) (w : World) : Calls Tryz.prog 57 #[.string v.txt, .int .i64 (k : Int)] w fun e w' => e = .returned (.string (tbit v k).txt) ∧ Below w.heap.size w w' := by
  have hw0 : (Tree.atom wReturn).txt = ({ data := #[114, 101, 116, 117, 114, 110] } : ByteArray) := atom_txt _
  have hw1 : (Tree.atom wIf).txt = ({ data := #[105, 102] } : ByteArray) := atom_txt _
  have hr0 := retB_txt 0
  have hr1 := retB_txt 1
  by_cases hk : k = 1
  · subst hk
    have hl : (Tree.node [.atom wReturn, v]).write.length ≤ 20000 := by simp [Tree.write, Tree.writes, wReturn]; omega
    rw [tbit, if_pos rfl]
    have HROW := hid (fun W => row_cells (heap_new W (.cells #[.string ({ data := #[114, 101, 116, 117, 114, 110] } : ByteArray), .string v.txt] 9) W.heap.size rfl) (ps := [.atom wReturn, v]) (by simp [hw0]))
    have HL := hid hl
    clear hl hw0 hw1 hr0 hr1
    go_enter Tryz.func57, Tryz.ntmps57
    go_wp2_with (go_at_call 55; refine (list_any [.atom wReturn, v] 2 _ 2 rfl (by decide) HL.out (by decide) _ (by simp) (HROW.out _)).mono ?_; rintro e w1 ⟨rfl, hb1⟩)
    go_ret
    exact ⟨rfl, ((Below.refl _ _).alloc (Nat.le_refl _) _).trans (hb1.mono (by simp))⟩
  · have hk2 : ((k : Int) == 1) = false := by simp; omega
    have hl : (Tree.node [.atom wIf, v, retB 0, retB 1]).write.length ≤ 20000 := by have h0 := retB_len 0; have h1 := retB_len 1; simp only [Tree.write, Tree.writes, List.length_cons, List.length_append, List.length_nil, wIf, h0, h1]; omega
    rw [tbit, if_neg hk]
    have HROW := hid (fun W => row_cells (heap_new W (.cells #[.string ({ data := #[105, 102] } : ByteArray), .string v.txt, .string ({ data := #[40, 114, 101, 116, 117, 114, 110, 32, 48, 41] } : ByteArray), .string ({ data := #[40, 114, 101, 116, 117, 114, 110, 32, 49, 41] } : ByteArray)] 9) W.heap.size rfl) (ps := [.atom wIf, v, retB 0, retB 1]) (by simp only [List.map_cons, List.map_nil, hw1, hr0, hr1]; rfl))
    have HL := hid hl
    clear hl hw0 hw1 hr0 hr1 hk
    go_enter Tryz.func57, Tryz.ntmps57
    go_wp2_with (go_at_call 55; refine (list_any [.atom wIf, v, retB 0, retB 1] 4 _ 4 rfl (by decide) HL.out (by decide) _ (by simp) (HROW.out _)).mono ?_; rintro e w1 ⟨rfl, hb1⟩)
    go_ret
    exact ⟨rfl, ((Below.refl _ _).alloc (Nat.le_refl _) _).trans (hb1.mono (by simp))⟩
end Go.Proofs.YtocegmgdbmbkkaaGreatDoor
