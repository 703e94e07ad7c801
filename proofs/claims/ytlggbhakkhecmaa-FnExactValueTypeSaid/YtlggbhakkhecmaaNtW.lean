/- The program's name translation of source types. -/
import Derived.Test.YtlggbhakkhecmaaSrcK
import Derived.Test.YtlggbhakkhecmaaJoinX
import Derived.Deep.RegionHeld3
import Derived.Test.YtlggbhakkhecmaaNtP
namespace Go.Proofs.Ytlggbhakkhecmaa
open Go.RowKit

set_option maxRecDepth 100000 in
set_option maxHeartbeats 4000000 in
theorem byn_pair {w : World} {b c d : Nat} {hd : ByteArray} {A B : Tree} (e0 : (hd.toList == [62]) = false) (e1 : (hd.toList == [42]) = true) (hA : A.write.length ≤ 8000) (hB : B.write.length ≤ 8000)
    (hb : w.heap[b]? = some (.cells #[.string hd, .pointer (some ⟨c, 0, none⟩), .pointer (some ⟨d, 0, none⟩)] 60 (0, 0)))
    (H1 : ∀ W, Below w.heap.size w W → Calls Try.prog 25 #[.pointer (some ⟨c, 0, none⟩)] W fun e w' => e = .returned (.string A.txt) ∧ Below W.heap.size W w')
    (H2 : ∀ W, Below w.heap.size w W → Calls Try.prog 25 #[.pointer (some ⟨d, 0, none⟩)] W fun e w' => e = .returned (.string B.txt) ∧ Below W.heap.size W w') :
    Calls Try.prog 25 #[.pointer (some ⟨b, 0, none⟩)] w fun e w' => e = .returned (.string (Tree.node [.atom ({ data := #[38] } : ByteArray), A, B]).txt) ∧ Below w.heap.size w w' := by
  have HC1 := hid H1
  have HC2 := hid H2
  have hl : (Tree.node [.atom ({ data := #[38] } : ByteArray), A, B]).write.length ≤ 20000 := by simp [Tree.write, Tree.writes]; omega
  have HL := hid hl
  have HROW := hid (fun W => row_cells (heap_new W (.cells #[.string ({ data := #[38] } : ByteArray), .string A.txt, .string B.txt] 9) W.heap.size rfl) (ps := [.atom ({ data := #[38] } : ByteArray), A, B]) (by simp [atom_txt]))
  have hlt := lt_of_block hb
  have KB := hid (fun W (h : Below w.heap.size w W) => cells_of_3 (block_below hb h hlt))
  obtain ⟨d1, d2, d3⟩ := KB.out w (Below.refl _ _)
  clear H1 H2 hl hb hlt
  go_enter Try.func25, Try.ntmps25
  go_wp2_with fail
  go_region_held3 (fun w' => w'.cell? ⟨b, 0, none⟩ = some (.string hd) ∧ w'.cell? ⟨b, 1, none⟩ = some (.pointer (some ⟨c, 0, none⟩)) ∧ w'.cell? ⟨b, 2, none⟩ = some (.pointer (some ⟨d, 0, none⟩)))
    (first | exact ⟨d1, d2, d3⟩ | exact e5 | exact e4 | exact e3 | exact e2)
    (first
      | (have _ := HB3; go_at_call 32; refine (list_any [.atom ({ data := #[38] } : ByteArray), A, B] 3 _ 3 rfl (by decide) HL.out (by decide) _ (by simp) (HROW.out _)).mono ?_; rintro e w5 ⟨rfl, hb5⟩; have hb05 := below_nx hb5 HB4.out; have e5 := KB.out _ hb05; have HB5 := hid hb05; clear hb5 hb05)
      | (have _ := HB2; go_at_call 25; refine (HC2.out _ HB2.out).mono ?_; rintro e w3 ⟨rfl, hb3⟩; have hb03 := below_nx hb3 HB2.out; have e3 := KB.out _ hb03; have hb04 := hb03.alloc hb03.size (.cells #[.string ({ data := #[38] } : ByteArray), .string A.txt, .string B.txt] 9); have e4 := KB.out _ hb04; have HB3 := hid hb03; have HB4 := hid hb04; clear hb3 hb03 hb04)
      | (go_at_call 25; refine (HC1.out w.drew ((Below.refl _ _).drew)).mono ?_; rintro e w2 ⟨rfl, hb2⟩; have hb02 := below_nx hb2 ((Below.refl _ w).drew); have e2 := KB.out _ hb02; have HB2 := hid hb02; clear hb2 hb02))
  go_wp2_with fail
  go_ret
  exact ⟨rfl, HB5.out⟩

set_option maxRecDepth 100000 in
set_option maxHeartbeats 4000000 in
theorem byn_fn {w : World} {b c d : Nat} {hd : ByteArray} {A B : Tree} (e0 : (hd.toList == [62]) = true) (hA : A.write.length ≤ 8000) (hB : B.write.length ≤ 8000)
    (hb : w.heap[b]? = some (.cells #[.string hd, .pointer (some ⟨c, 0, none⟩), .pointer (some ⟨d, 0, none⟩)] 60 (0, 0)))
    (H1 : ∀ W, Below w.heap.size w W → Calls Try.prog 25 #[.pointer (some ⟨c, 0, none⟩)] W fun e w' => e = .returned (.string A.txt) ∧ Below W.heap.size W w')
    (H2 : ∀ W, Below w.heap.size w W → Calls Try.prog 25 #[.pointer (some ⟨d, 0, none⟩)] W fun e w' => e = .returned (.string B.txt) ∧ Below W.heap.size W w') :
    Calls Try.prog 25 #[.pointer (some ⟨b, 0, none⟩)] w fun e w' => e = .returned (.string (Tree.node [.atom ({ data := #[62] } : ByteArray), .node [.atom ({ data := #[117] } : ByteArray), A], B]).txt) ∧ Below w.heap.size w w' := by
  have HC1 := hid H1
  have HC2 := hid H2
  have HL1 := hid (show (Tree.node [.atom ({ data := #[117] } : ByteArray), A]).write.length ≤ 20000 by simp [Tree.write, Tree.writes]; omega)
  have HL2 := hid (show (Tree.node [.atom ({ data := #[62] } : ByteArray), .node [.atom ({ data := #[117] } : ByteArray), A], B]).write.length ≤ 20000 by simp [Tree.write, Tree.writes]; omega)
  have HROW1 := hid (fun W => row_cells (heap_new W (.cells #[.string ({ data := #[117] } : ByteArray), .string A.txt] 9) W.heap.size rfl) (ps := [.atom ({ data := #[117] } : ByteArray), A]) (by simp [atom_txt]))
  have HROW2 := hid (fun W => row_cells (heap_new W (.cells #[.string ({ data := #[62] } : ByteArray), .string (Tree.node [.atom ({ data := #[117] } : ByteArray), A]).txt, .string B.txt] 9) W.heap.size rfl) (ps := [.atom ({ data := #[62] } : ByteArray), .node [.atom ({ data := #[117] } : ByteArray), A], B]) (by simp [atom_txt]))
  have hlt := lt_of_block hb
  have KB := hid (fun W (h : Below w.heap.size w W) => cells_of_3 (block_below hb h hlt))
  obtain ⟨d1, d2, d3⟩ := KB.out w (Below.refl _ _)
  clear H1 H2 hb hlt
  go_enter Try.func25, Try.ntmps25
  go_wp2_with fail
  go_region_held3 (fun w' => w'.cell? ⟨b, 0, none⟩ = some (.string hd) ∧ w'.cell? ⟨b, 1, none⟩ = some (.pointer (some ⟨c, 0, none⟩)) ∧ w'.cell? ⟨b, 2, none⟩ = some (.pointer (some ⟨d, 0, none⟩)))
    (first | exact ⟨d1, d2, d3⟩ | exact e7 | exact e6 | exact e5 | exact e4 | exact e3 | exact e2)
    (first
      | (have _ := HB5; go_at_call 32; refine (list_any [.atom ({ data := #[62] } : ByteArray), .node [.atom ({ data := #[117] } : ByteArray), A], B] 3 _ 3 rfl (by decide) HL2.out (by decide) _ (by simp) (HROW2.out _)).mono ?_; rintro e w7 ⟨rfl, hb7⟩; have hb07 := below_nx hb7 HB6.out; have e7 := KB.out _ hb07; have HB7 := hid hb07; clear hb7 hb07)
      | (have _ := HB4; go_at_call 25; refine (HC2.out _ HB4.out).mono ?_; rintro e w5 ⟨rfl, hb5⟩; have hb05 := below_nx hb5 HB4.out; have e5 := KB.out _ hb05; have hb06 := hb05.alloc hb05.size (.cells #[.string ({ data := #[62] } : ByteArray), .string (Tree.node [.atom ({ data := #[117] } : ByteArray), A]).txt, .string B.txt] 9); have e6 := KB.out _ hb06; have HB5 := hid hb05; have HB6 := hid hb06; clear hb5 hb05 hb06)
      | (have _ := HB2; go_at_call 32; refine (list_any [.atom ({ data := #[117] } : ByteArray), A] 2 _ 2 rfl (by decide) HL1.out (by decide) _ (by simp) (HROW1.out _)).mono ?_; rintro e w4 ⟨rfl, hb4⟩; have hb04 := below_nx hb4 HB3.out; have e4 := KB.out _ hb04; have HB4 := hid hb04; clear hb4 hb04)
      | (go_at_call 25; refine (HC1.out w.drew ((Below.refl _ _).drew)).mono ?_; rintro e w2 ⟨rfl, hb2⟩; have hb02 := below_nx hb2 ((Below.refl _ w).drew); have e2 := KB.out _ hb02; have hb03 := hb02.alloc hb02.size (.cells #[.string ({ data := #[117] } : ByteArray), .string A.txt] 9); have e3 := KB.out _ hb03; have HB2 := hid hb02; have HB3 := hid hb03; clear hb2 hb02 hb03))
  go_wp2_with fail
  go_ret
  exact ⟨rfl, HB7.out⟩

set_option maxRecDepth 100000 in
theorem byn_bit {w : World} {b : Nat} {hd : ByteArray} (e0 : (hd.toList == [62]) = false) (e1 : (hd.toList == [42]) = false) (hb : w.heap[b]? = some (.cells #[.string hd, .pointer none, .pointer none] 60 (0, 0))) :
    Calls Try.prog 25 #[.pointer (some ⟨b, 0, none⟩)] w fun e w' => e = .returned (.string (Tree.node [.atom ({ data := #[102] } : ByteArray), .atom ({ data := #[98] } : ByteArray)]).txt) ∧ Below w.heap.size w w' := by
  have HL1 := hid (show (Tree.node [.atom ({ data := #[102] } : ByteArray), .atom ({ data := #[98] } : ByteArray)]).write.length ≤ 20000 by simp [Tree.write, Tree.writes])
  have HROW1 := hid (fun W => row_cells (heap_new W (.cells #[.string ({ data := #[102] } : ByteArray), .string ({ data := #[98] } : ByteArray)] 9) W.heap.size rfl) (ps := [.atom ({ data := #[102] } : ByteArray), .atom ({ data := #[98] } : ByteArray)]) (by simp [atom_txt]))
  obtain ⟨d1, -, -⟩ := cells_of_3 hb
  clear hb
  go_enter Try.func25, Try.ntmps25
  go_wp2_with (go_at_call 32; refine (list_any [.atom ({ data := #[102] } : ByteArray), .atom ({ data := #[98] } : ByteArray)] 2 _ 2 rfl (by decide) HL1.out (by decide) _ (by simp) (HROW1.out _)).mono ?_; rintro e w4 ⟨rfl, hb4⟩)
  go_ret
  exact ⟨rfl, ((Below.refl _ _).alloc (Nat.le_refl _) _).trans (hb4.mono (by simp))⟩

set_option maxHeartbeats 1000000 in
theorem byn_any {w0 : World} {S : Nat → Prop} {s : STy} {b : Nat} (h : SIn w0 S s b) : s.n ≤ 200 → ∀ w, Kept w0 w → w0.heap.size ≤ w.heap.size →
    Calls Try.prog 25 #[.pointer (some ⟨b, 0, none⟩)] w fun e w' => e = .returned (.string s.byn.txt) ∧ Below w.heap.size w w' := by
  induction h with
  | bit hd hh b hS hb =>
    intro _ w hk hw
    exact byn_bit (by rw [hh]; rfl) (by rw [hh]; rfl) ((hk b (lt_of_block hb)).trans hb)
  | fn hd hh x y b c d hS hb hx hy ihx ihy =>
    intro hn w hk hw
    simp only [STy.n] at hn
    have l1 := tree_len x; have l2 := tree_len y; have l3 := byn_len x; have l4 := byn_len y; have l5 := dfl_len x; have l6 := dfl_len y
    have hh2 := bytes_of_toList hh
    have hlt := lt_of_block hb
    exact byn_fn (by rw [hh]; rfl) (by omega) (by omega) ((hk b hlt).trans hb) (fun W h => ihx (by omega) W (hk.trans (Kept.of_below h (Nat.le_refl _)) hw) (Nat.le_trans hw h.size)) (fun W h => ihy (by omega) W (hk.trans (Kept.of_below h (Nat.le_refl _)) hw) (Nat.le_trans hw h.size))
  | pair hd hh x y b c d hS hb hx hy ihx ihy =>
    intro hn w hk hw
    simp only [STy.n] at hn
    have l1 := tree_len x; have l2 := tree_len y; have l3 := byn_len x; have l4 := byn_len y; have l5 := dfl_len x; have l6 := dfl_len y
    have hh2 := bytes_of_toList hh
    have hlt := lt_of_block hb
    exact byn_pair (by rw [hh]; rfl) (by rw [hh]; rfl) (by omega) (by omega) ((hk b hlt).trans hb) (fun W h => ihx (by omega) W (hk.trans (Kept.of_below h (Nat.le_refl _)) hw) (Nat.le_trans hw h.size)) (fun W h => ihy (by omega) W (hk.trans (Kept.of_below h (Nat.le_refl _)) hw) (Nat.le_trans hw h.size))

end Go.Proofs.Ytlggbhakkhecmaa
