/- StateStart: the law, walked. -/
import Derived.Test.YtiipofgnoabhoaaGreatDoorTvStatC
import Derived.Test.YtiipofgnoabhoaaGreatDoorTvStatE
import Derived.Test.YtiipofgnoabhoaaGreatDoorTvMarkT
namespace Go.Proofs.YtiipofgnoabhoaaGreatDoor
open Go.RowKit

set_option maxHeartbeats 1000000 in
theorem eqState_empty (A : ByteArray) (p q : Option Addr) (b : Int) (w : World) : Calls Tryz.prog 31 #[.agg #[.string A, .slice p 0 0, .int .i64 b], .agg #[.string A, .slice q 0 0, .int .i64 b]] w fun e w' => e = .returned (.bool true) ∧ Below w.heap.size w w' := by
  have HQ := hid (fun W => eqStrings_same [] p q 0 0 0 W rfl (by omega) (fun i v h => by simp at h) (fun i v h => by simp at h))
  have ha := heap_new w (.cells #[.string A, .slice p 0 0, .int .i64 b] 42) w.heap.size rfl
  have ka := cells3_of ((heap_alloc_old (w.alloc (.cells #[.string A, .slice p 0 0, .int .i64 b] 42)) (.cells #[.string A, .slice q 0 0, .int .i64 b] 42) (lt_of_block ha)).trans ha)
  have hb := heap_new (w.alloc (.cells #[.string A, .slice p 0 0, .int .i64 b] 42)) (.cells #[.string A, .slice q 0 0, .int .i64 b] 42) (w.heap.size + 1) (by simp)
  have kb := cells3_of hb
  have HA := hid (fun w1 (h : Below ((w.alloc (.cells #[.string A, .slice p 0 0, .int .i64 b] 42)).alloc (.cells #[.string A, .slice q 0 0, .int .i64 b] 42)).heap.size _ w1) => cells3_of (block_below ((heap_alloc_old (w.alloc (.cells #[.string A, .slice p 0 0, .int .i64 b] 42)) (.cells #[.string A, .slice q 0 0, .int .i64 b] 42) (lt_of_block ha)).trans ha) h (by simp; omega)))
  have HB := hid (fun w1 (h : Below ((w.alloc (.cells #[.string A, .slice p 0 0, .int .i64 b] 42)).alloc (.cells #[.string A, .slice q 0 0, .int .i64 b] 42)).heap.size _ w1) => cells3_of (block_below hb h (by simp)))
  have q0 : (A.toList == A.toList) = true := by simp
  have q0b : (!A.toList == A.toList) = false := by simp
  have q1 : (b != b) = false := by simp
  clear ha hb
  go_enter Tryz.func31, Tryz.ntmps31
  go_wp2_with (go_at_call 26; refine (HQ.out _).mono ?_; rintro e w1 ⟨rfl, hb1⟩; have k1 := HA.out w1 hb1; have k2 := HB.out w1 hb1)
  go_ret
  exact ⟨rfl, (((Below.refl _ w).alloc (Nat.le_refl _) _).alloc (by simp) _).trans (hb1.mono (by simp; omega))⟩
set_option maxHeartbeats 1000000 in
theorem markState_empty (A : ByteArray) (b : Int) (w : World) : Calls Tryz.prog 34 #[.agg #[.string A, .slice none 0 0, .int .i64 b], .int .i64 1] w fun e w' => e = .returned (.int .i64 1) ∧ Below w.heap.size w w' := by
  have HQ := hid (fun W => markStrings_nil none 0 1 W)
  have ka := cells3_of (heap_new w (.cells #[.string A, .slice none 0 0, .int .i64 b] 42) w.heap.size rfl)
  go_enter Tryz.func34, Tryz.ntmps34
  go_wp2_with (go_at_call 70; refine (HQ.out _).mono ?_; rintro e w1 ⟨rfl, hb1⟩)
  go_ret
  exact ⟨rfl, ((Below.refl _ w).alloc (Nat.le_refl _) _).trans (hb1.mono (by simp))⟩
set_option maxHeartbeats 1000000 in
theorem heldState_empty (A : ByteArray) (b : Int) (w : World) : Calls Tryz.prog 35 #[.agg #[.string A, .slice none 0 0, .int .i64 b], .int .i64 1] w fun e w' => e = .returned (.int .i64 1) ∧ Below w.heap.size w w' := by
  have HQ := hid (fun W => (show Calls Tryz.prog 71 #[.slice none 0 0, .int .i64 1] W fun e w' => e = .returned (.int .i64 1) ∧ Below W.heap.size W w' from heldStrings_own none 0 0 1 W (by omega) (by omega) (fun i v h => by simp [marks] at h)))
  have ka := cells3_of (heap_new w (.cells #[.string A, .slice none 0 0, .int .i64 b] 42) w.heap.size rfl)
  go_enter Tryz.func35, Tryz.ntmps35
  go_wp2_with (go_at_call 71; refine (HQ.out _).mono ?_; rintro e w1 ⟨rfl, hb1⟩)
  go_ret
  exact ⟨rfl, ((Below.refl _ w).alloc (Nat.le_refl _) _).trans (hb1.mono (by simp))⟩
set_option maxRecDepth 100000 in
set_option maxHeartbeats 4000000 in
theorem lawStateStart (s : ByteArray) (hs : s.size ≤ 9223372036854775807) (bit : Int) (w : World) : Calls Tryz.prog 7 #[.string s, .int .i64 bit] w fun e w' => e = .returned (.bool true) ∧ Below w.heap.size w w' := by
  by_cases h : s.size ≤ 1048576
  · have HA := hid (fun W => specStateStart_any s (by omega) bit W)
    have HB := hid (fun W => implStateStart_any s (by omega) bit W)
    unfold StPost at HB
    generalize (stC s bit).isSome = k at HA HB
    generalize (if k = true then s else ByteArray.empty) = A at HA HB
    generalize (if k = true then bit else 0) = B at HA HB
    have q1 : (k != k) = false := by simp
    have HE := hid (fun p q W => eqState_empty A p q B W)
    have HM := hid (fun W => markState_empty A B W)
    have HH := hid (fun W => heldState_empty A B W)
    go_enter Tryz.func7, Tryz.ntmps7
    go_wp2_with fail
    go_at_call 32
    refine (HA.out _).mono ?_
    rintro e w1 ⟨⟨p, rfl⟩, hb1⟩
    have B1 := hid (hb1.alloc hb1.size (.cells #[.string A, .slice p 0 0, .int .i64 B] 42))
    have C0 := hid (heap_new w1 (.cells #[.string A, .slice p 0 0, .int .i64 B] 42) w1.heap.size rfl)
    go_wp2_with fail
    obtain ⟨W1, hW1⟩ : ∃ W1, w1.alloc (.cells #[.string A, .slice p 0 0, .int .i64 B] 42) = W1 := ⟨_, rfl⟩
    rw [hW1] at B1 C0 ⊢
    obtain ⟨b0, hb0⟩ : ∃ b0, w1.heap.size = b0 := ⟨_, rfl⟩
    rw [hb0] at C0 ⊢
    clear hb0 hW1 hb1
    go_at_call 33
    refine (HB.out _).mono ?_
    rintro e w2 ⟨rfl, hb2⟩
    have hl0 := lt_of_block C0.out
    have B2 := hid ((B1.out.trans (hb2.mono B1.out.size)).alloc (by have := B1.out.size; have := hb2.size; omega) (.cells #[.string A, .slice none 0 0, .int .i64 B] 42))
    have C1 := hid (heap_new w2 (.cells #[.string A, .slice none 0 0, .int .i64 B] 42) w2.heap.size rfl)
    have C0b := hid ((heap_alloc_old w2 (.cells #[.string A, .slice none 0 0, .int .i64 B] 42) (by have := hb2.size; omega)).trans (block_below C0.out hb2 hl0))
    have c0 := cells3_of C0b.out
    have c1 := cells3_of C1.out
    go_wp2_with fail
    obtain ⟨W2, hW2⟩ : ∃ W2, w2.alloc (.cells #[.string A, .slice none 0 0, .int .i64 B] 42) = W2 := ⟨_, rfl⟩
    rw [hW2] at B2 C1 C0b ⊢
    obtain ⟨b1, hb1⟩ : ∃ b1, w2.heap.size = b1 := ⟨_, rfl⟩
    rw [hb1] at C1 ⊢
    clear hb1 hW2 hb2 hl0 c0 c1
    have l0 := hid (lt_of_block C0b.out)
    have l1 := hid (lt_of_block C1.out)
    have K := hid (fun W (hb : Below W2.heap.size W2 W) => (show (W.cell? ⟨b0, 0, none⟩ = some (.string A) ∧ W.cell? ⟨b0, 1, none⟩ = some (.slice p 0 0) ∧ W.cell? ⟨b0, 2, none⟩ = some (.int .i64 B)) ∧ (W.cell? ⟨b1, 0, none⟩ = some (.string A) ∧ W.cell? ⟨b1, 1, none⟩ = some (.slice none 0 0) ∧ W.cell? ⟨b1, 2, none⟩ = some (.int .i64 B)) from
      ⟨(cells3_of (block_below C0b.out hb l0.out)).1, (cells3_of (block_below C1.out hb l1.out)).1⟩))
    go_at_call 31
    refine (HE.out _ _ _).mono ?_
    rintro e w3 ⟨rfl, hb3⟩
    have k3 := K.out w3 hb3
    go_wp2_with fail
    go_at_call 34
    refine (HM.out _).mono ?_
    rintro e w4 ⟨rfl, hb4⟩
    have hB4 := hb3.trans (hb4.mono hb3.size)
    have k4 := K.out w4 hB4
    clear k3
    go_wp2_with fail
    go_at_call 35
    refine (HH.out _).mono ?_
    rintro e w5 ⟨rfl, hb5⟩
    have hB5 := hB4.trans (hb5.mono hB4.size)
    have k5 := K.out w5 hB5
    clear k4
    go_wp2_with fail
    go_at_call 33
    refine (HB.out _).mono ?_
    rintro e w6 ⟨rfl, hb6⟩
    have hB6 := hB5.trans (hb6.mono hB5.size)
    have hB7 := hB6.alloc hB6.size (.cells #[.string A, .slice none 0 0, .int .i64 B] 42)
    have k7 := K.out _ hB7
    have c7 := cells3_of (heap_new w6 (.cells #[.string A, .slice none 0 0, .int .i64 B] 42) w6.heap.size rfl)
    clear k5
    go_wp2_with fail
    go_at_call 31
    refine (HE.out _ _ _).mono ?_
    rintro e w8 ⟨rfl, hb8⟩
    have hB8 := hB7.trans (hb8.mono hB7.size)
    have k8 := K.out w8 hB8
    clear k7 c7
    go_wp2_with fail
    go_at_call 35
    refine (HH.out _).mono ?_
    rintro e w9 ⟨rfl, hb9⟩
    have hB9 := hB8.trans (hb9.mono hB8.size)
    go_wp2_with fail
    go_ret
    exact ⟨rfl, B2.out.trans (hB9.mono B2.out.size)⟩
  · have h2 : 1048576 < s.size := by omega
    clear h
    go_enter Tryz.func7, Tryz.ntmps7
    go_wp2
    go_ret
    exact ⟨rfl, Below.refl _ _⟩
end Go.Proofs.YtiipofgnoabhoaaGreatDoor
