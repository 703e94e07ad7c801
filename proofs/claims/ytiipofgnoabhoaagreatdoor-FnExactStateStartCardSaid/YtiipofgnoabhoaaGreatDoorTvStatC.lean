/- StateStart of the program. -/
import Derived.Test.YtiipofgnoabhoaaGreatDoorTvStatB
import Derived.Test.YtiipofgnoabhoaaGreatDoorTu8
namespace Go.Proofs.YtiipofgnoabhoaaGreatDoor
open Go.RowKit

theorem clC_inv {s : ByteArray} {m : Tm} (h : clC s = some m) : readTm s = some m ∧ m.isVal = false ∧ m.free = [] := by
  unfold clC at h
  cases hr : readTm s with
  | none => rw [hr] at h; simp at h
  | some m' =>
    rw [hr] at h
    simp only at h
    split at h
    · rename_i hc; obtain rfl := Option.some.inj h; exact ⟨rfl, hc⟩
    · simp at h
theorem stC_inv {s : ByteArray} {bit : Int} {m : Tm} (h : stC s bit = some m) : clC s = some m ∧ (bit = 0 ∨ bit = 1) := by
  unfold stC at h
  split at h
  · rename_i hc; exact ⟨h, hc⟩
  · simp at h
theorem readTm_bytes {s : ByteArray} {m : Tm} (h : readTm s = some m) : (⟨m.write.toArray⟩ : ByteArray) = s ∧ m.write.length ≤ 12000 ∧ m.fit := by
  obtain ⟨t, hp, ht, _, _⟩ := readTm_inv h
  have hw := tm_write t [] m ht
  have hb := parse_write hp
  refine ⟨?_, ?_, ?_⟩
  · rw [hw, ← hb]
  · rw [hw]; exact (parse_wk hp).2.2
  · exact tm_fit t [] m ht
/-- What StateStart leaves. -/
def StPost (o : Option Tm) (s : ByteArray) (bit : Int) (w : World) (e : Ending) (w' : World) : Prop :=
  e = .returned (.tuple #[.agg #[.string (if o.isSome = true then s else ByteArray.empty), .slice none 0 0, .int .i64 (if o.isSome = true then bit else 0)], .bool o.isSome]) ∧ Below w.heap.size w w'

set_option maxRecDepth 100000 in
set_option maxHeartbeats 2000000 in
theorem implStateStart_any (s : ByteArray) (hs : s.size ≤ 400000000) (bit : Int) (w : World) : Calls Tryz.prog 33 #[.string s, .int .i64 bit] w (StPost (stC s bit) s bit w) := by
  have HC := hid (fun W => startOf_any s hs bit W)
  obtain ⟨o1, ho1⟩ : ∃ o, Obj.cells #[.string ByteArray.empty, .slice none 0 0, .int .i64 0] 42 = o := ⟨_, rfl⟩
  have HO1 := hid ho1
  have HB := hid (fun w1 (hb : Below (w.alloc o1).heap.size (w.alloc o1) w1) => (show w1.heap[w.heap.size]? = some (.cells #[.string ByteArray.empty, .slice none 0 0, .int .i64 0] 42 (0, 0)) from by
    rw [ho1]; exact (hb.block _ (by simp)).trans (heap_alloc_new w o1)))
  have HBW := hid (fun w1 (hb : Below (w.alloc o1).heap.size (w.alloc o1) w1) => (show Below w.heap.size w w1 from ((Below.refl _ w).alloc (Nat.le_refl _) o1).trans (hb.mono (by simp))))
  have HL := hid (fun w1 (hb : Below (w.alloc o1).heap.size (w.alloc o1) w1) => (show w.heap.size < w1.heap.size by have := hb.size; simp at this; omega))
  clear ho1
  cases hr : stC s bit with
  | none =>
    rw [hr] at HC
    have HX := hid (fun w1 (hb : Below (w.alloc o1).heap.size (w.alloc o1) w1) => (HB.out (w1.alloc (.cells #[.pointer none, .slice none 0 0, .int .i64 0] 61)) (hb.alloc hb.size _)))
    clear hr
    go_enter Tryz.func33, Tryz.ntmps33
    go_wp2_with fail
    rw [show (Obj.cells #[Value.string { data := #[] }, Value.slice none 0 0, Value.int IntKind.i64 0] 42) = o1 from HO1.out]
    go_wp2_with (go_at_call 50; refine (HC.out _).mono ?_; rintro e w1 ⟨hb1, rfl⟩; have hx := HX.out w1 hb1; have kx := cells3_of hx; have kz := (cells3_of (set_three hx (.string { data := #[] }) (.slice none 0 0) (.int .i64 0))).1)
    refine bodyPost_ret (v := .tuple #[.agg #[.string ByteArray.empty, .slice none 0 0, .int .i64 0], .bool false]) (by simp [results, Tryz.results33, go_sem, kz.1, kz.2.1, kz.2.2]; rfl) rfl ?_
    have hbw := HBW.out w1 hb1
    exact ⟨rfl, (((hbw.alloc hbw.size _).setCell (Nat.le_refl _) _).setCell (Nat.le_refl _) _).setCell (Nat.le_refl _) _⟩
  | some m =>
    rw [hr] at HC
    obtain ⟨hcl, hbit⟩ := stC_inv hr
    obtain ⟨hrt, _, _⟩ := clC_inv hcl
    obtain ⟨hT, hlen, hfit⟩ := readTm_bytes hrt
    have HST := hid (fun (w0 : World) (S : Nat → Prop) (a : Nat) (hn : NIn w0 S m a) (W : World) (hk : Kept w0 W) (hw : w0.heap.size ≤ W.heap.size) => by
      have := state_start hn hfit hlen bit W hk hw
      rw [hT] at this; exact this)
    have HX := hid (fun a w1 (hb : Below (w.alloc o1).heap.size (w.alloc o1) w1) => (HB.out (w1.alloc (.cells #[.pointer (some ⟨a, 0, none⟩), .slice none 0 0, .int .i64 bit] 61)) (hb.alloc hb.size _)))
    have HBX := hid (fun a w1 (hb : Below (w.alloc o1).heap.size (w.alloc o1) w1) => (HBW.out (w1.alloc (.cells #[.pointer (some ⟨a, 0, none⟩), .slice none 0 0, .int .i64 bit] 61)) (hb.alloc hb.size _)))
    clear hr hcl hbit hrt hT hlen hfit
    go_enter Tryz.func33, Tryz.ntmps33
    go_wp2_with fail
    rw [show (Obj.cells #[Value.string { data := #[] }, Value.slice none 0 0, Value.int IntKind.i64 0] 42) = o1 from HO1.out]
    go_wp2_with (first
      | (go_at_call 69; have _ := hb1; refine (HST.out _ _ _ HN.out _ ((Kept.refl _).alloc (Nat.le_refl _) _) (by simp)).mono ?_; rintro e w2 ⟨rfl, hb2⟩; have hx2 := (hb2.block _ (by have := HL.out w1 hb1; simp; omega)).trans hx; have kx2 := cells3_of hx2; have kz := (cells3_of (set_three hx2 (.string s) (.slice none 0 0) (.int .i64 bit))).1)
      | (go_at_call 50; refine (HC.out _).mono ?_; rintro e w1 ⟨hb1, a, rfl, hn1⟩; have hx := HX.out a w1 hb1; have kx := cells3_of hx; have HN := hid hn1; clear hn1))
    refine bodyPost_ret (v := .tuple #[.agg #[.string s, .slice none 0 0, .int .i64 bit], .bool true]) (by simp [results, Tryz.results33, go_sem, kz.1, kz.2.1, kz.2.2]) rfl ?_
    have hbw := HBX.out a w1 hb1
    have hbw2 := hbw.trans (hb2.mono hbw.size)
    exact ⟨rfl, ((hbw2.setCell (Nat.le_refl _) _).setCell (Nat.le_refl _) _).setCell (Nat.le_refl _) _⟩
end Go.Proofs.YtiipofgnoabhoaaGreatDoor
