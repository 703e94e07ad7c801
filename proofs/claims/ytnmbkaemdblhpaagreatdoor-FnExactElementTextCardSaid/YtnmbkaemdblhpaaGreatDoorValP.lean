/- The program's meaning of an element of a plain value type. -/
import Derived.Test.YtnmbkaemdblhpaaGreatDoorVtP
import Derived.Test.YtnmbkaemdblhpaaGreatDoorQuoP
import Derived.Test.YtnmbkaemdblhpaaGreatDoorCountE
import Derived.Test.YtnmbkaemdblhpaaGreatDoorAssertT
import Derived.Test.YtnmbkaemdblhpaaGreatDoorQuadP
import Derived.Deep.RegionHeld3
namespace Go.Proofs.YtnmbkaemdblhpaaGreatDoor
open Go.RowKit Go.Maps

theorem store_nilF (a : Addr) (m : Mode) (w : World) : (store a .nilFunc m).run Tryz.prog w = stored Tryz.prog w a .nilFunc m := run_store Tryz.prog w a _ m rfl
set_option maxRecDepth 100000 in
set_option maxHeartbeats 1000000 in
theorem bitMeaning_bit (k : Nat) (hk : k < 2) (w : World) : Calls Tryz.prog 32 #[.int .i64 (k : Int)] w fun e w' => e = .returned (.agg #[.string (bitS k), .int .i64 (k : Int), .slice none 0 0, .nilFunc]) ∧ Below w.heap.size w w' := by
  have HS := hid (fun W => itoa_bit k hk W)
  have hnf := store_nilF
  go_enter Tryz.func32, Tryz.ntmps32
  go_wp2_with (go_at_call 29; refine (HS.out _).mono ?_; rintro e w1 ⟨rfl, rfl⟩)
  refine bodyPost_ret (v := .agg #[.string (bitS k), .int .i64 (k : Int), .slice none 0 0, .nilFunc]) (by simp [results, Tryz.results32, go_sem]) rfl ?_
  exact ⟨rfl, (Below.refl _ _).alloc (Nat.le_refl _) _⟩

set_option maxRecDepth 100000 in
set_option maxHeartbeats 1000000 in
theorem pairMeaning_any (A B : ByteArray) (za zb : Int) (pa pb : Option Addr) (na ca nb cb : Nat) (hA : A.size ≤ 24000) (hB : B.size ≤ 24000) (w : World) :
    Calls Tryz.prog 27 #[.agg #[.string A, .int .i64 za, .slice pa na ca, .nilFunc], .agg #[.string B, .int .i64 zb, .slice pb nb cb, .nilFunc]] w fun e w' =>
      (∃ g, e = .returned (.agg #[.string (((({ data := #[40, 112, 97, 105, 114, 32] } : ByteArray) ++ A) ++ ({ data := #[32] } : ByteArray)) ++ B ++ ({ data := #[41] } : ByteArray)), .int .i64 0, .slice (some ⟨g, 0, none⟩) 2 2, .nilFunc])) ∧ Below w.heap.size w w' := by
  have hnf := store_nilF
  go_enter Tryz.func27, Tryz.ntmps27
  go_wp2_with fail
  refine bodyPost_ret (v := .agg #[.string (((({ data := #[40, 112, 97, 105, 114, 32] } : ByteArray) ++ A) ++ ({ data := #[32] } : ByteArray)) ++ B ++ ({ data := #[41] } : ByteArray)), .int .i64 0, .slice (some ⟨w.heap.size + 1 + 1 + 1, 0, none⟩) 2 2, .nilFunc]) (by simp [results, Tryz.results27, go_sem]) rfl ?_
  exact ⟨⟨_, rfl⟩, ((((Below.refl _ _).alloc (Nat.le_refl _) _).alloc (by simp) _).alloc (by simp; omega) _).alloc (by simp; omega) _⟩

/-- What meaningOf leaves: the text, the map grown and right. -/
def VPost (b n k : Nat) (txt : ByteArray) (w : World) (e : Ending) (w' : World) : Prop :=
  (∃ z p m c, e = .returned (.agg #[.string txt, .int .i64 z, .slice p m c, .nilFunc])) ∧ w.grownBy w' (some b) ∧ ∃ n' D', n' ≤ n + k ∧ w'.ownsMap Tryz.prog 9 (plainElem Tryz.prog 3) b n' D' ∧ Good D'

set_option maxRecDepth 100000 in
set_option maxHeartbeats 1000000 in
theorem meaningOf_bit (k : Nat) (hk : k < 2) (mb b n : Nat) (D : DataW Unit) (w : World) (ho : w.ownsMap Tryz.prog 9 (plainElem Tryz.prog 3) b n D) (hg : Good D) :
    Calls Tryz.prog 16 #[.pointer (some ⟨mb, 0, none⟩), Ty.bit.val, .int .i64 (k : Int)] w (VPost b n 0 (bitS k) w) := by
  have HS := hid (fun W => bitMeaning_bit k hk W)
  have HO := hid ho
  have HG := hid hg
  clear ho hg
  simp only [Ty.val]
  have a1 := as_bit_pair (.agg #[])
  have a2 := as_bit_thunk (.agg #[])
  have hnf := store_nilF
  go_enter Tryz.func16, Tryz.ntmps16
  go_wp2_with (go_at_call 32; refine (HS.out _).mono ?_; rintro e w1 ⟨rfl, hb1⟩; have hx := four_all (block_below (heap_new ((w.alloc (.cells #[.pointer (some ⟨mb, 0, none⟩)] 71)).alloc (.cells #[.int .i64 (k : Int)] 3)) (.cells #[.string ByteArray.empty, .int .i64 0, .slice none 0 0, .nilFunc] 54) (w.heap.size + 1 + 1) (by simp)) hb1 (by simp)) (.string (bitS k)) (.int .i64 (k : Int)) (.slice none 0 0) .nilFunc; obtain ⟨⟨x1, x2⟩, ⟨x3, x4⟩, ⟨x5, x6⟩, ⟨x7, x8⟩, hx9⟩ := hx; have HX := hid hx9; have HB1 := hid hb1; clear hx9 hb1)
  have hx := cells_of_four HX.out
  refine bodyPost_ret (v := .agg #[.string (bitS k), .int .i64 (k : Int), .slice none 0 0, .nilFunc]) (by simp [results, Tryz.results16, go_sem, hx.1, hx.2.1, hx.2.2.1, hx.2.2.2.1]) rfl ?_
  have hb := HB1.out.size
  have hbb := (((Below.refl w.heap.size w).alloc (Nat.le_refl _) (.cells #[.pointer (some ⟨mb, 0, none⟩)] 71)).alloc (by simp) (.cells #[.int .i64 (k : Int)] 3)).alloc (by simp; omega) (.cells #[.string ByteArray.empty, .int .i64 0, .slice none 0 0, .nilFunc] 54)
  have hbw := hbb.trans (HB1.out.mono (by simp; omega))
  have hbz := (((hbw.setCell (p := ⟨w.heap.size + 1 + 1, 0, none⟩) (by show w.heap.size ≤ w.heap.size + 1 + 1; omega) (.string (bitS k))).setCell (p := ⟨w.heap.size + 1 + 1, 1, none⟩) (by show w.heap.size ≤ w.heap.size + 1 + 1; omega) (.int .i64 (k : Int))).setCell (p := ⟨w.heap.size + 1 + 1, 2, none⟩) (by show w.heap.size ≤ w.heap.size + 1 + 1; omega) (.slice none 0 0)).setCell (p := ⟨w.heap.size + 1 + 1, 3, none⟩) (by show w.heap.size ≤ w.heap.size + 1 + 1; omega) .nilFunc
  exact ⟨⟨_, _, _, _, rfl⟩, grown_any hbz _, n, D, by omega, HO.out.kept (row := none) (grown_any hbz _) (by simp), HG.out⟩
end Go.Proofs.YtnmbkaemdblhpaaGreatDoor
