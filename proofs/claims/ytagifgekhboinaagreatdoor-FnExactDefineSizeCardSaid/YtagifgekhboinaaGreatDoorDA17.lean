/- Merged: LstP, LstX. -/
import Derived.Test.YtagifgekhboinaaGreatDoorDA13
import Derived.Test.YtagifgekhboinaaGreatDoorDASJoinP
import Derived.Test.YtagifgekhboinaaGreatDoorDASJoinX
namespace Go.Proofs.YtagifgekhboinaaGreatDoor
open Go.RowKit

theorem tree_txt (t : Ty) : t.tree.txt = t.text := by rw [Tree.txt, ty_tree_write]; rfl
end Go.Proofs.YtagifgekhboinaaGreatDoor

namespace Go.Proofs.YtagifgekhboinaaGreatDoor
open Go.RowKit

theorem retB_txt (k : Nat) : (retB k).txt = ({ data := #[40, 114, 101, 116, 117, 114, 110, 32, (48 + k).toUInt8, 41] } : ByteArray) := by
  simp [retB, bitT, bitS, wReturn, Tree.txt, Tree.write, Tree.writes]
theorem retB_len (k : Nat) : (retB k).write.length = 10 := by
  simp [retB, bitT, bitS, wReturn, Tree.write, Tree.writes]
theorem atom_w (s : ByteArray) : (Tree.atom s).write = s.data.toList := rfl

set_option maxRecDepth 100000 in
set_option maxHeartbeats 1000000 in
theorem testBit_any (v : Tree) (k : Nat) (hv : v.write.length ≤ 1000) (w : World) : Calls Tryz.prog 105 #[.string v.txt, .int .i64 (k : Int)] w fun e w' => e = .returned (.string (tbit v k).txt) ∧ Below w.heap.size w w' := by
  have hw0 : (Tree.atom wReturn).txt = ({ data := #[114, 101, 116, 117, 114, 110] } : ByteArray) := atom_txt _
  have hw1 : (Tree.atom wIf).txt = ({ data := #[105, 102] } : ByteArray) := atom_txt _
  have hr0 := retB_txt 0
  have hr1 := retB_txt 1
  by_cases hk : k = 1
  · subst hk
    have hl : (Tree.node [.atom wReturn, v]).write.length ≤ 20000 := by simp [Tree.write, Tree.writes, wReturn]; omega
    rw [tbit, if_pos rfl]
    have HROW := hid (fun W => row_cells (heap_new W (.cells #[.string ({ data := #[114, 101, 116, 117, 114, 110] } : ByteArray), .string v.txt] 9) W.heap.size rfl) (ps := [.atom wReturn, v]) (by simp [hw0]))
    have HL := hid hl
    clear hl hw0 hw1 hr0 hr1
    go_enter Tryz.func105, Tryz.ntmps105
    go_wp2_with (go_at_call 63; refine (list_any [.atom wReturn, v] 2 _ 2 rfl (by decide) HL.out (by decide) _ (by simp) (HROW.out _)).mono ?_; rintro e w1 ⟨rfl, hb1⟩)
    go_ret
    exact ⟨rfl, ((Below.refl _ _).alloc (Nat.le_refl _) _).trans (hb1.mono (by simp))⟩
  · have hk2 : ((k : Int) == 1) = false := by simp; omega
    have hl : (Tree.node [.atom wIf, v, retB 0, retB 1]).write.length ≤ 20000 := by have h0 := retB_len 0; have h1 := retB_len 1; simp only [Tree.write, Tree.writes, List.length_cons, List.length_append, List.length_nil, wIf, h0, h1]; omega
    rw [tbit, if_neg hk]
    have HROW := hid (fun W => row_cells (heap_new W (.cells #[.string ({ data := #[105, 102] } : ByteArray), .string v.txt, .string ({ data := #[40, 114, 101, 116, 117, 114, 110, 32, 48, 41] } : ByteArray), .string ({ data := #[40, 114, 101, 116, 117, 114, 110, 32, 49, 41] } : ByteArray)] 9) W.heap.size rfl) (ps := [.atom wIf, v, retB 0, retB 1]) (by simp only [List.map_cons, List.map_nil, hw1, hr0, hr1]; rfl))
    have HL := hid hl
    clear hl hw0 hw1 hr0 hr1 hk
    go_enter Tryz.func105, Tryz.ntmps105
    go_wp2_with (go_at_call 63; refine (list_any [.atom wIf, v, retB 0, retB 1] 4 _ 4 rfl (by decide) HL.out (by decide) _ (by simp) (HROW.out _)).mono ?_; rintro e w1 ⟨rfl, hb1⟩)
    go_ret
    exact ⟨rfl, ((Below.refl _ _).alloc (Nat.le_refl _) _).trans (hb1.mono (by simp))⟩
end Go.Proofs.YtagifgekhboinaaGreatDoor
