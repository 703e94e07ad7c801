/- Merged: LtFault. -/
import Derived.Test.YtfogjomebcponaaGreatDoorZG58
import Derived.Test.YtfogjomebcponaaGreatDoorZGc48
import Derived.Test.YtfogjomebcponaaGreatDoorZGc32
namespace Go.Proofs.YtfogjomebcponaaGreatDoor
open Go.RowKit
set_option maxRecDepth 100000
set_option maxHeartbeats 4000000
theorem lawFaultD {w : World} {p : Option Addr} {n c : Nat} {bs : List Int} (hl : bs.length = n) (hn : n ≤ 9223372036854775807) (hz : ∀ z ∈ bs, 0 ≤ z ∧ z ≤ 255) (hp : ∀ g o s, p = some ⟨g, o, s⟩ → n = 0 ∨ g < w.heap.size) (hv : Vals w p (u8s bs)) (hc : n ≤ c) :
    Calls Tryz.prog 6 #[.slice p n c] w fun e w' => e = .returned (.bool true) ∧ Below w.heap.size w w' := by
 by_cases h : n ≤ 1048576
 ·obtain ⟨S, hS⟩ : ∃ S : Nat, S = 60000000 := ⟨_, rfl⟩
  have HD := hid (drawTermFault_any hS hl (by omega) hz hp hv hc)
  clear hl hz hp hv
  go_enter Tryz.func6, Tryz.ntmps6
  go_wp2_with fail
  go_at_call 17
  refine HD.out.mono ?_
  rintro e w1 ⟨s, rfl, hs, hb1⟩
  have HB1 := hid hb1
  clear hb1
  have HB := hid (fun W => implTermFault_any s (by omega) W)
  have HA := hid (fun W => specTermFault_any s (by omega) W)
  cases hx : fau s with
  | none =>
   rw [hx] at HA HB
   have HA' := hid (fun W => (show Calls Tryz.prog 15 #[.string s] W fun e w' => e = .returned (.tuple #[.string ByteArray.empty, .bool false]) ∧ Below W.heap.size W w' from HA.out W))
   have HB' := hid (fun W => (show Calls Tryz.prog 16 #[.string s] W fun e w' => e = .returned (.tuple #[.string ByteArray.empty, .bool false]) ∧ Below W.heap.size W w' from HB.out W))
   have hq : (!(ByteArray.empty : ByteArray).toList == (ByteArray.empty : ByteArray).toList) = false := by simp
   have hq2 : ((ByteArray.empty : ByteArray).toList == (ByteArray.empty : ByteArray).toList) = true := by simp
   clear hx HA HB
   go_wp2_with fail
   go_at_call 16
   refine (HB'.out _).mono ?_
   rintro e w2 ⟨rfl, hb2⟩
   have HB2 := hid (HB1.out.trans (hb2.mono HB1.out.size))
   clear hb2
   go_wp2_with fail
   go_at_call 15
   refine (HA'.out _).mono ?_
   rintro e w3 ⟨rfl, hb3⟩
   have HB3 := hid (HB2.out.trans (hb3.mono HB2.out.size))
   clear hb3
   go_wp2_with fail
   go_ret
   exact ⟨rfl, HB3.out⟩
  | some f =>
   rw [hx] at HA HB
   obtain ⟨m, f', hr, hr2, hz, hks, hms, hty, hty2⟩ := fault_facts hx
   obtain ⟨X, hX⟩ : ∃ X, fauTxt (some f) = X := ⟨_, rfl⟩
   rw [hX] at hr2 hz hty2
   have HA' := hid (fun W => (show Calls Tryz.prog 15 #[.string s] W fun e w' => e = .returned (.tuple #[.string X, .bool true]) ∧ Below W.heap.size W w' from by rw [← hX]; exact HA.out W))
   have HB' := hid (fun W => (show Calls Tryz.prog 16 #[.string s] W fun e w' => e = .returned (.tuple #[.string X, .bool true]) ∧ Below W.heap.size W w' from by rw [← hX]; exact HB.out W))
   obtain ⟨k, hk⟩ : ∃ k, f'.ks.length = k := ⟨_, rfl⟩
   have hk0 : 0 < k := by rw [← hk]; exact List.length_pos_iff.2 hks
   have hk4 : k ≤ 4 := by have h := kids_bound X; rw [kidsOf_some hr2] at h; simp at h; omega
   have HKD := hid (fun W => (show Calls Tryz.prog 18 #[.string X] W fun e w' => ∃ q c, e = .returned (.tuple #[.slice q k c, .bool true]) ∧ Below W.heap.size W w' from by
    refine (implTermKids_any X (by omega) W).mono ?_
    rintro e w' ⟨⟨q, c, rfl, _⟩, hb⟩
    refine ⟨q, c, ?_, hb⟩
    rw [kidsOf_some hr2]
    have e1 : ((some (f'.ks.map Tm.txt)).getD []).length = k := by simp [hk]
    rw [e1]; rfl))
   have HT1 := hid (fun W => (show Calls Tryz.prog 14 #[.string s] W fun e w' => e = .returned (.bool false) ∧ Below W.heap.size W w' from by have h := implTermTyped_any s (by omega) W; rw [hty] at h; exact h))
   have HT2 := hid (fun W => (show Calls Tryz.prog 14 #[.string X] W fun e w' => e = .returned (.bool false) ∧ Below W.heap.size W w' from by have h := implTermTyped_any X (by omega) W; rw [hty2] at h; exact h))
   have HZ1 := hid (fun W => (show Calls Tryz.prog 19 #[.string s] W fun e w' => e = .returned (.int .i64 (m.size : Int)) ∧ Below W.heap.size W w' from by have h := implTermSize_any s (by omega) W; rw [sizeOf_some hr] at h; exact h))
   have HZ2 := hid (fun W => (show Calls Tryz.prog 19 #[.string X] W fun e w' => e = .returned (.int .i64 (f'.size : Int)) ∧ Below W.heap.size W w' from by have h := implTermSize_any X (by omega) W; rw [sizeOf_some hr2] at h; exact h))
   have hq : (!X.toList == X.toList) = false := by simp
   have hq2 : (X.toList == X.toList) = true := by simp
   have hle : (f'.size : Int) ≤ (m.size : Int) := by omega
   have hki : (0 : Int) < (k : Int) := by omega
   clear hx hr hr2 hks hty hty2 HA HB hX hk
   go_wp2_with fail
   go_at_call 16
   refine (HB'.out _).mono ?_
   rintro e w2 ⟨rfl, hb2⟩
   have HB2 := hid (HB1.out.trans (hb2.mono HB1.out.size))
   clear hb2
   go_wp2_with fail
   go_at_call 15
   refine (HA'.out _).mono ?_
   rintro e w3 ⟨rfl, hb3⟩
   have HB3 := hid (HB2.out.trans (hb3.mono HB2.out.size))
   clear hb3
   go_wp2_with fail
   go_at_call 18
   refine (HKD.out _).mono ?_
   rintro e w4 ⟨q4, c4, rfl, hb4⟩
   have HB4 := hid (HB3.out.trans (hb4.mono HB3.out.size))
   clear hb4
   go_wp2_with fail
   go_at_call 14
   refine (HT1.out _).mono ?_
   rintro e w5 ⟨rfl, hb5⟩
   have HB5 := hid (HB4.out.trans (hb5.mono HB4.out.size))
   clear hb5
   go_wp2_with fail
   go_at_call 14
   refine (HT2.out _).mono ?_
   rintro e w6 ⟨rfl, hb6⟩
   have HB6 := hid (HB5.out.trans (hb6.mono HB5.out.size))
   clear hb6
   go_wp2_with fail
   go_at_call 19
   refine (HZ2.out _).mono ?_
   rintro e w7 ⟨rfl, hb7⟩
   have HB7 := hid (HB6.out.trans (hb7.mono HB6.out.size))
   clear hb7
   go_wp2_with fail
   go_at_call 19
   refine (HZ1.out _).mono ?_
   rintro e w8 ⟨rfl, hb8⟩
   have HB8 := hid (HB7.out.trans (hb8.mono HB7.out.size))
   clear hb8
   go_wp2_with fail
   go_ret
   exact ⟨rfl, HB8.out⟩
 ·have h2 : 1048576 < (n : Int) := by omega
  clear hl hz hp hv
  go_enter Tryz.func6, Tryz.ntmps6
  go_wp2_with fail
  go_ret
  exact ⟨rfl, Below.refl _ _⟩
end Go.Proofs.YtfogjomebcponaaGreatDoor
