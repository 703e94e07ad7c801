/- Merged: LtTClosed. -/
import Derived.Test.YthpcmglnooemaaaGreatDoorWA46
import Derived.Test.YthpcmglnooemaaaGreatDoorWA45
namespace Go.Proofs.YthpcmglnooemaaaGreatDoor
open Go.RowKit

set_option maxRecDepth 100000 in
set_option maxHeartbeats 4000000 in
theorem lawClosedD {w : World} {p : Option Addr} {n c : Nat} {bs : List Int} (hl : bs.length = n) (hn : n ≤ 9223372036854775807) (hz : ∀ z ∈ bs, 0 ≤ z ∧ z ≤ 255) (hp : ∀ g o s, p = some ⟨g, o, s⟩ → n = 0 ∨ g < w.heap.size) (hv : Vals w p (u8s bs)) (hc : n ≤ c) :
    Calls Tryz.prog 7 #[.slice p n c] w fun e w' => e = .returned (.bool true) ∧ Below w.heap.size w w' := by
  by_cases h : n ≤ 1048576
  · obtain ⟨S, hS⟩ : ∃ S : Nat, S = 60000000 := ⟨_, rfl⟩
    have HD := hid (drawTermClosed_any hS hl (by omega) hz hp hv hc)
    clear hl hz hp hv
    go_enter Tryz.func7, Tryz.ntmps7
    go_wp2_with fail
    go_at_call 30
    refine HD.out.mono ?_
    rintro e w1 ⟨s, rfl, hs, hb1⟩
    have HB1 := hid hb1
    clear hb1
    have HB := hid (fun W => implTermClosed_any s (by omega) W)
    have HA := hid (fun W => specTermClosed_any s (by omega) W)
    cases hc0 : closedOf s with
    | false =>
      rw [hc0] at HA HB
      clear hc0
      go_wp2_with fail
      go_at_call 29
      refine (HB.out _).mono ?_
      rintro e w2 ⟨rfl, hb2⟩
      have HB2 := hid (HB1.out.trans (hb2.mono HB1.out.size))
      clear hb2
      go_wp2_with fail
      go_at_call 31
      refine (HA.out _).mono ?_
      rintro e w3 ⟨rfl, hb3⟩
      have HB3 := hid (HB2.out.trans (hb3.mono HB2.out.size))
      clear hb3
      go_wp2_with fail
      go_ret
      exact ⟨rfl, HB3.out⟩
    | true =>
      rw [hc0] at HA HB
      obtain ⟨m, hx, hmf⟩ : ∃ m, readTm s = some m ∧ m.free = [] := by
        unfold closedOf at hc0
        cases hx : readTm s with
        | none => rw [hx] at hc0; cases hc0
        | some m =>
          rw [hx] at hc0
          exact ⟨m, rfl, List.length_eq_zero_iff.1 (of_decide_eq_true hc0)⟩
      obtain ⟨v, hv1, hv2, hv3⟩ := pB_read
      have hpo := cl_put (x := ⟨#[97]⟩) hx hmf hv1 (by rw [Go.ByteArray.toList_eq]; decide) hv2 hv3
      have HPT := hid (fun W => (show Calls Tryz.prog 27 #[.string s, .string ⟨#[97]⟩, .string ⟨#[40, 112, 97, 105, 114, 32, 48, 32, 49, 41]⟩] W fun e w' => e = .returned (.tuple #[.string s, .bool true]) ∧ Below W.heap.size W w' from by
        have h := implTermPut_any s ⟨#[97]⟩ pB (by omega) (by decide) (by decide) W
        rw [hpo] at h
        exact h))
      have HFR := hid (fun W => (implTermFree_any s (by omega) W).mono fun e w' h => ll_of (l := []) (n := 0) (b := true) h (by rw [freeOf_some hx, hmf]; rfl) rfl (by rw [freeOf_some hx]; rfl))
      have hq : (s.toList == s.toList) = true := by simp
      clear hc0 hx hmf hv1 hv2 hv3 hpo
      go_wp2_with fail
      go_at_call 29
      refine (HB.out _).mono ?_
      rintro e w2 ⟨rfl, hb2⟩
      have HB2 := hid (HB1.out.trans (hb2.mono HB1.out.size))
      clear hb2
      go_wp2_with fail
      go_at_call 31
      refine (HA.out _).mono ?_
      rintro e w3 ⟨rfl, hb3⟩
      have HB3 := hid (HB2.out.trans (hb3.mono HB2.out.size))
      clear hb3
      go_wp2_with fail
      go_at_call 19
      refine (HFR.out _).mono ?_
      rintro e w4 ⟨q4, d4, rfl, hsv4, hv4, hu4, hb4⟩
      have HB4 := hid (HB3.out.trans (hb4.mono HB3.out.size))
      clear hsv4 hv4 hu4
      clear hb4
      go_wp2_with fail
      go_at_call 27
      refine (HPT.out _).mono ?_
      rintro e w5 ⟨rfl, hb5⟩
      have HB5 := hid (HB4.out.trans (hb5.mono HB4.out.size))
      clear hb5
      go_wp2_with fail
      go_ret
      exact ⟨rfl, HB5.out⟩
  · have h2 : 1048576 < (n : Int) := by omega
    clear hl hz hp hv
    go_enter Tryz.func7, Tryz.ntmps7
    go_wp2_with fail
    go_ret
    exact ⟨rfl, Below.refl _ _⟩
end Go.Proofs.YthpcmglnooemaaaGreatDoor
