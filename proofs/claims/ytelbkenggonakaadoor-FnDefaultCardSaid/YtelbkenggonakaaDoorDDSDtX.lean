/- Merged: DtX. -/
import Derived.Test.YtelbkenggonakaaDoorDD9
import Derived.Test.YtelbkenggonakaaDoorDD10
import Derived.Test.YtelbkenggonakaaDoorDD11
import Derived.Test.YtelbkenggonakaaDoorDD19
namespace Go.Proofs.YtelbkenggonakaaDoor
open Go.RowKit

set_option maxRecDepth 100000 in
set_option maxHeartbeats 4000000 in
theorem lawDefaultD {w : World} {p : Option Addr} {n c : Nat} {bs : List Int} (hl : bs.length = n) (hn : n ≤ 9223372036854775807) (hz : ∀ z ∈ bs, 0 ≤ z ∧ z ≤ 255) (hp : ∀ g o s, p = some ⟨g, o, s⟩ → n = 0 ∨ g < w.heap.size) (hv : Vals w p (u8s bs)) (hc : n ≤ c) :
    Calls Tryd.prog 3 #[.slice p n c] w fun e w' => e = .returned (.bool true) ∧ Below w.heap.size w w' := by
  by_cases h : n ≤ 1048576
  · have HD := hid (drawSourceDefault_any hl (by omega) hz hp hv hc)
    clear hl hz hp hv
    go_enter Tryd.func3, Tryd.ntmps3
    go_wp2_with fail
    go_at_call 4
    refine HD.out.mono ?_
    rintro e w1 ⟨s, rfl, hs, hb1⟩
    have HB1 := hid hb1
    clear hb1
    have HB := hid (fun W => implSourceDefault_any s (by omega) W)
    have HA := hid (fun W => specSourceDefault_any s (by omega) W)
    cases hr : readSty s with
    | none =>
      have HB2 := hid (fun W => (show Calls Tryd.prog 5 #[.string s] W fun e w' => e = .returned (.tuple #[.string ByteArray.empty, .bool false]) ∧ Below W.heap.size W w' from by have h1 := HB.out W; unfold sdX at h1; rw [hr] at h1; exact h1))
      have HA2 := hid (fun W => (show Calls Tryd.prog 6 #[.string s] W fun e w' => e = .returned (.tuple #[.string ByteArray.empty, .bool false]) ∧ Below W.heap.size W w' from by have h1 := HA.out W; unfold sdX at h1; rw [hr] at h1; exact h1))
      clear hr HA HB
      go_wp2_with fail
      go_at_call 5
      refine (HB2.out _).mono ?_
      rintro e w2 ⟨rfl, hb2⟩
      have HC2 := hid (HB1.out.trans (hb2.mono HB1.out.size))
      clear hb2
      go_wp2_with fail
      go_at_call 6
      refine (HA2.out _).mono ?_
      rintro e w3 ⟨rfl, hb3⟩
      have HB3 := hid (HC2.out.trans (hb3.mono HC2.out.size))
      clear hb3
      go_wp2_with fail
      go_ret
      exact ⟨rfl, HB3.out⟩
    | some x =>
      have hn := readSty_n hr
      have hosz : x.dfl.txt.size ≤ 400 := by rw [txt_size]; have h1 := dfl_len x; omega
      have hrd := dfl_read x hn
      obtain ⟨out, ho⟩ : ∃ out, x.dfl.txt = out := ⟨_, rfl⟩
      rw [ho] at hosz hrd
      have HB2 := hid (fun W => (show Calls Tryd.prog 5 #[.string s] W fun e w' => e = .returned (.tuple #[.string out, .bool true]) ∧ Below W.heap.size W w' from by have h1 := HB.out W; unfold sdX at h1; rw [hr] at h1; rw [← ho]; exact h1))
      have HA2 := hid (fun W => (show Calls Tryd.prog 6 #[.string s] W fun e w' => e = .returned (.tuple #[.string out, .bool true]) ∧ Below W.heap.size W w' from by have h1 := HA.out W; unfold sdX at h1; rw [hr] at h1; rw [← ho]; exact h1))
      have HST := hid (fun W => (show Calls Tryd.prog 7 #[.string out] W fun e w' => e = .returned (.tuple #[.string s, .bool true]) ∧ Below W.heap.size W w' from by
        have h1 := implSourceType_any out (by omega) W
        have h2 : stT out = some s := by rw [stT, stE, hrd]; simp only; rw [dx_typ x [] hn]; simp only [Option.map]; rw [td_text hr]
        unfold TxPost at h1; rw [h2] at h1; exact h1))
      have HSP := hid (fun W => (show Calls Tryd.prog 8 #[.string out] W fun e w' => e = .returned (.bool true) ∧ Below W.heap.size W w' from by
        have h1 := implSourcePure_any out (by omega) W
        have h2 : spX out = true := by rw [spX, hrd]; exact dx_pure x
        rw [h2] at h1; exact h1))
      have hq : (!out.toList == out.toList) = false := by simp
      have hq2 : (s.toList == s.toList) = true := by simp
      clear hr HA HB hn ho hrd
      go_wp2_with fail
      go_at_call 5
      refine (HB2.out _).mono ?_
      rintro e w2 ⟨rfl, hb2⟩
      have HC2 := hid (HB1.out.trans (hb2.mono HB1.out.size))
      clear hb2
      go_wp2_with fail
      go_at_call 6
      refine (HA2.out _).mono ?_
      rintro e w3 ⟨rfl, hb3⟩
      have HB3 := hid (HC2.out.trans (hb3.mono HC2.out.size))
      clear hb3
      go_wp2_with fail
      go_at_call 7
      refine (HST.out _).mono ?_
      rintro e w4 ⟨rfl, hb4⟩
      have HB4 := hid (HB3.out.trans (hb4.mono HB3.out.size))
      clear hb4
      go_wp2_with fail
      go_at_call 8
      refine (HSP.out _).mono ?_
      rintro e w5 ⟨rfl, hb5⟩
      have HB5 := hid (HB4.out.trans (hb5.mono HB4.out.size))
      clear hb5
      go_wp2_with fail
      go_ret
      exact ⟨rfl, HB5.out⟩

  · have h2 : 1048576 < n := by omega
    clear h hl hz hp hv
    go_enter Tryd.func3, Tryd.ntmps3
    go_wp2
    go_ret
    exact ⟨rfl, Below.refl _ _⟩
end Go.Proofs.YtelbkenggonakaaDoor
