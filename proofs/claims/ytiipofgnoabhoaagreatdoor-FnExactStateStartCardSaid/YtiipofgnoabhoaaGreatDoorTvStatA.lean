/- The start of the machine, by the program: startOf, state, StateStart. -/
import Derived.Test.YtiipofgnoabhoaaGreatDoorTvClosR
import Derived.Test.YtiipofgnoabhoaaGreatDoorTu13
namespace Go.Proofs.YtiipofgnoabhoaaGreatDoor
open Go.RowKit

theorem cells3_of {w : World} {b : Nat} {x y z : Value} {t : TypeId} (h : w.heap[b]? = some (.cells #[x, y, z] t (0, 0))) : (w.cell? ⟨b, 0, none⟩ = some x ∧ w.cell? ⟨b, 1, none⟩ = some y ∧ w.cell? ⟨b, 2, none⟩ = some z) ∧ w.frozen? ⟨b, 0, none⟩ = false ∧ w.frozen? ⟨b, 1, none⟩ = false ∧ w.frozen? ⟨b, 2, none⟩ = false := by
  refine ⟨cells_of_three h, ?_, ?_, ?_⟩ <;> simp [World.frozen?, h]
theorem set_three {w : World} {b : Nat} {x y z : Value} {t : TypeId} (h : w.heap[b]? = some (.cells #[x, y, z] t (0, 0))) (x2 y2 z2 : Value) :
    (((w.setCell ⟨b, 0, none⟩ x2).setCell ⟨b, 1, none⟩ y2).setCell ⟨b, 2, none⟩ z2).heap[b]? = some (.cells #[x2, y2, z2] t (0, 0)) := by
  simp [World.setCell, Array.getElem?_modify, h]
/-- The computation at the start. -/
def stC (s : ByteArray) (bit : Int) : Option Tm := if bit = 0 ∨ bit = 1 then clC s else none
theorem nin_three {w w1 : World} {o : Obj} {x y z : Value} {m : Tm} {a : Nat} (h : NIn w1 (fun k => (w.alloc o).heap.size ≤ k) m a) : NIn (((w1.setCell ⟨w.heap.size, 0, none⟩ x).setCell ⟨w.heap.size, 1, none⟩ y).setCell ⟨w.heap.size, 2, none⟩ z) (fun k => w.heap.size ≤ k) m a := by
  refine h.keep (fun k hk _ => ?_) (fun k hk _ => ?_)
  · have hk2 : w.heap.size + 1 ≤ k := by simpa using hk
    rw [Below.heap_setCell _ _ _ _ (by show k ≠ w.heap.size; omega), Below.heap_setCell _ _ _ _ (by show k ≠ w.heap.size; omega), Below.heap_setCell _ _ _ _ (by show k ≠ w.heap.size; omega)]
  · have hk2 : w.heap.size + 1 ≤ k := by simpa using hk
    omega
def StartPost (o : Option Tm) (bit : Int) (w : World) (e : Ending) (w' : World) : Prop :=
  Below w.heap.size w w' ∧ match o with
    | some m => ∃ a : Nat, e = .returned (.tuple #[.agg #[.pointer (some ⟨a, 0, none⟩), .slice none 0 0, .int .i64 bit], .bool true]) ∧ NIn w' (fun k => w.heap.size ≤ k) m a
    | none => e = .returned (.tuple #[.agg #[.pointer none, .slice none 0 0, .int .i64 0], .bool false])

set_option maxRecDepth 100000 in
set_option maxHeartbeats 2000000 in
theorem startOf_any (s : ByteArray) (hs : s.size ≤ 400000000) (bit : Int) (w : World) : Calls Tryz.prog 50 #[.string s, .int .i64 bit] w (StartPost (stC s bit) bit w) := by
  have HC := hid (fun W => readClosed_any s hs W)
  have HK := hid (fun W (hb : Below (w.heap.size + 1) (w.alloc (.cells #[.pointer none, .slice none 0 0, .int .i64 0] 61)) W) => block_below (heap_new w (.cells #[.pointer none, .slice none 0 0, .int .i64 0] 61) w.heap.size rfl) hb (by omega))
  cases hr : clC s with
  | none =>
    rw [hr] at HC
    rw [show stC s bit = none by unfold stC; rw [hr]; split <;> rfl]
    clear hr
    go_enter Tryz.func50, Tryz.ntmps50
    go_wp2_with (go_at_call 90; refine (HC.out _).mono ?_; rintro e w1 hp; obtain ⟨rfl, hb1⟩ := hp.none; clear hp; have hh1 := HK.out w1 (hb1.mono (by simp)); have k1 := cells3_of hh1)
    have k2 := (cells3_of (set_three hh1 (.pointer none) (.slice none 0 0) (.int .i64 0))).1
    refine bodyPost_ret (v := .tuple #[.agg #[.pointer none, .slice none 0 0, .int .i64 0], .bool false]) (by simp [results, Tryz.results50, go_sem, k2.1, k2.2.1, k2.2.2]) rfl ?_
    have hb0 := ((Below.refl w.heap.size w).alloc (Nat.le_refl _) (.cells #[.pointer none, .slice none 0 0, .int .i64 0] 61)).trans (hb1.mono (by simp))
    exact ⟨((hb0.setCell (Nat.le_refl _) _).setCell (Nat.le_refl _) _).setCell (Nat.le_refl _) _, rfl⟩
  | some m =>
    rw [hr] at HC
    by_cases hz : bit = 0
    · subst hz
      have hst : stC s 0 = some m := by unfold stC; rw [if_pos (Or.inl rfl), hr]
      rw [hst]
      clear hr hst
      go_enter Tryz.func50, Tryz.ntmps50
      go_wp2_with (go_at_call 90; refine (HC.out _).mono ?_; rintro e w1 hp; obtain ⟨a, rfl, hb1, hn1⟩ := hp.some; clear hp; have hh1 := HK.out w1 (hb1.mono (by simp)); have k1 := cells3_of hh1)
      have hh2 := set_three hh1 (.pointer (some ⟨a, 0, none⟩)) (.slice none 0 0) (.int .i64 0)
      have k2 := (cells3_of hh2).1
      refine bodyPost_ret (v := .tuple #[.agg #[.pointer (some ⟨a, 0, none⟩), .slice none 0 0, .int .i64 0], .bool true]) (by simp [results, Tryz.results50, go_sem, k2.1, k2.2.1, k2.2.2]) rfl ?_
      have hb0 := ((Below.refl w.heap.size w).alloc (Nat.le_refl _) (.cells #[.pointer none, .slice none 0 0, .int .i64 0] 61)).trans (hb1.mono (by simp))
      exact ⟨((hb0.setCell (Nat.le_refl _) _).setCell (Nat.le_refl _) _).setCell (Nat.le_refl _) _, a, rfl, nin_three hn1⟩
    by_cases hz1 : bit = 1
    · subst hz1
      have hst : stC s 1 = some m := by unfold stC; rw [if_pos (Or.inr rfl), hr]
      rw [hst]
      clear hr hst
      go_enter Tryz.func50, Tryz.ntmps50
      go_wp2_with (go_at_call 90; refine (HC.out _).mono ?_; rintro e w1 hp; obtain ⟨a, rfl, hb1, hn1⟩ := hp.some; clear hp; have hh1 := HK.out w1 (hb1.mono (by simp)); have k1 := cells3_of hh1)
      have hh2 := set_three hh1 (.pointer (some ⟨a, 0, none⟩)) (.slice none 0 0) (.int .i64 1)
      have k2 := (cells3_of hh2).1
      refine bodyPost_ret (v := .tuple #[.agg #[.pointer (some ⟨a, 0, none⟩), .slice none 0 0, .int .i64 1], .bool true]) (by simp [results, Tryz.results50, go_sem, k2.1, k2.2.1, k2.2.2]) rfl ?_
      have hb0 := ((Below.refl w.heap.size w).alloc (Nat.le_refl _) (.cells #[.pointer none, .slice none 0 0, .int .i64 0] 61)).trans (hb1.mono (by simp))
      exact ⟨((hb0.setCell (Nat.le_refl _) _).setCell (Nat.le_refl _) _).setCell (Nat.le_refl _) _, a, rfl, nin_three hn1⟩
    · have q0 : (bit != 0) = true := by simpa using hz
      have q1 : (bit != 1) = true := by simpa using hz1
      have hst : stC s bit = none := by unfold stC; rw [if_neg (by omega)]
      rw [hst]
      clear hr hst
      go_enter Tryz.func50, Tryz.ntmps50
      go_wp2_with (go_at_call 90; refine (HC.out _).mono ?_; rintro e w1 hp; obtain ⟨a, rfl, hb1, hn1⟩ := hp.some; clear hp; have hh1 := HK.out w1 (hb1.mono (by simp)); have k1 := cells3_of hh1)
      have k2 := (cells3_of (set_three hh1 (.pointer none) (.slice none 0 0) (.int .i64 0))).1
      refine bodyPost_ret (v := .tuple #[.agg #[.pointer none, .slice none 0 0, .int .i64 0], .bool false]) (by simp [results, Tryz.results50, go_sem, k2.1, k2.2.1, k2.2.2]) rfl ?_
      have hb0 := ((Below.refl w.heap.size w).alloc (Nat.le_refl _) (.cells #[.pointer none, .slice none 0 0, .int .i64 0] 61)).trans (hb1.mono (by simp))
      exact ⟨((hb0.setCell (Nat.le_refl _) _).setCell (Nat.le_refl _) _).setCell (Nat.le_refl _) _, rfl⟩

end Go.Proofs.YtiipofgnoabhoaaGreatDoor
