/- FnPair: the law, walked. -/
import Derived.Test.YtknjpdbdchnpeaaFPDrwYPair
import Derived.Test.YtknjpdbdchnpeaaFM18
import Derived.Test.YtknjpdbdchnpeaaFMSKidsI
import Derived.Test.YtknjpdbdchnpeaaFM15
namespace Go.Proofs.Ytknjpdbdchnpeaa
open Go.RowKit

set_option maxRecDepth 100000 in
set_option maxHeartbeats 4000000 in
theorem lawPairD {w : World} {p : Option Addr} {n c : Nat} {bs : List Int} (hl : bs.length = n) (hn : n ≤ 9223372036854775807) (hz : ∀ z ∈ bs, 0 ≤ z ∧ z ≤ 255) (hp : ∀ g o s, p = some ⟨g, o, s⟩ → n = 0 ∨ g < w.heap.size) (hv : Vals w p (u8s bs)) (hc : n ≤ c) :
    Calls Try.prog 8 #[.slice p n c] w fun e w' => e = .returned (.bool true) ∧ Below w.heap.size w w' := by
  by_cases h : n ≤ 1048576
  · have HD := hid (drawPair_any hl (by omega) hz hp hv hc)
    clear hl hz hp hv
    go_enter Try.func8, Try.ntmps8
    go_wp2_with fail
    go_at_call 29
    refine HD.out.mono ?_
    rintro e w1 ⟨s, k, rfl, hs, hb1⟩
    have HB1 := hid hb1
    clear hb1
    have HB := hid (fun W => implPairParts_any s (by omega) k W)
    have HA := hid (fun W => specPairParts_any s (by omega) k W)
    cases hx : around (readTy s) 42 38 k with
    | none =>
      rw [hx] at HA HB
      have HB2 := hid (fun W => (show Calls Try.prog 30 #[.string s, .int .i64 k] W fun e w' => e = .returned (.tuple #[.int .i64 0, .int .i64 0, .bool false]) ∧ Below W.heap.size W w' from HB.out W))
      have HA2 := hid (fun W => (show Calls Try.prog 31 #[.string s, .int .i64 k] W fun e w' => e = .returned (.tuple #[.int .i64 0, .int .i64 0, .bool false]) ∧ Below W.heap.size W w' from HA.out W))
      clear hx HA HB
      go_wp2_with fail
      go_at_call 30
      refine (HB2.out _).mono ?_
      rintro e w2 ⟨rfl, hb2⟩
      have HC2 := hid (HB1.out.trans (hb2.mono HB1.out.size))
      clear hb2
      go_wp2_with fail
      go_at_call 31
      refine (HA2.out _).mono ?_
      rintro e w3 ⟨rfl, hb3⟩
      have HB3 := hid (HC2.out.trans (hb3.mono HC2.out.size))
      clear hb3
      go_wp2_with fail
      go_ret
      exact ⟨rfl, HB3.out⟩
    | some xs =>
      obtain ⟨ty, x, y, cx, cy, A, B, hr, hxy, hcx, hcy, hx5, hy5, hA, hB, a0, a1, b0, b1, hab, m0, m5, hk0, hk5⟩ := pr_facts hx
      rw [hx] at HA HB
      have HB2 := hid (fun W => (show Calls Try.prog 30 #[.string s, .int .i64 k] W fun e w' => e = .returned (.tuple #[.int .i64 A, .int .i64 B, .bool true]) ∧ Below W.heap.size W w' from by have h1 := HB.out W; unfold PairPost at h1; rw [hA, hB] at h1; exact h1))
      have HA2 := hid (fun W => (show Calls Try.prog 31 #[.string s, .int .i64 k] W fun e w' => e = .returned (.tuple #[.int .i64 A, .int .i64 B, .bool true]) ∧ Below W.heap.size W w' from by have h1 := HA.out W; unfold PairPost at h1; rw [hA, hB] at h1; exact h1))
      have HKD := hid (fun W => ((implTypeKids_any s (by omega) W).mono fun e w' h => lw_kids_post h))
      rw [hr] at HKD
      simp only [kidsO, Option.isSome] at HKD
      rw [hxy] at HKD
      have HK1 := hid (fun W => (show Calls Try.prog 26 #[.string y.text] W fun e w' => e = .returned (.int .i64 (cy : Int)) ∧ Below W.heap.size W w' from by
        have h0 : ty.kids[1]? = some y := by rw [hxy]; rfl
        have h1 := implTypeCount_any y.text (by have := lw_size hr h0; omega) W
        rw [lw_kid_read hr h0] at h1
        have h2 : cntO (some y) = (cy : Int) := by show cntV y.cnt = _; rw [hcy]; rfl
        rw [h2] at h1; exact h1))
      have HK0 := hid (fun W => (show Calls Try.prog 26 #[.string x.text] W fun e w' => e = .returned (.int .i64 (cx : Int)) ∧ Below W.heap.size W w' from by
        have h0 : ty.kids[0]? = some x := by rw [hxy]; rfl
        have h1 := implTypeCount_any x.text (by have := lw_size hr h0; omega) W
        rw [lw_kid_read hr h0] at h1
        have h2 : cntO (some x) = (cx : Int) := by show cntV x.cnt = _; rw [hcx]; rfl
        rw [h2] at h1; exact h1))
      clear hx HA HB hr hxy hcx hcy hA hB
      go_wp2_with fail
      go_at_call 30
      refine (HB2.out _).mono ?_
      rintro e w2 ⟨rfl, hb2⟩
      have HC2 := hid (HB1.out.trans (hb2.mono HB1.out.size))
      clear hb2
      go_wp2_with fail
      go_at_call 31
      refine (HA2.out _).mono ?_
      rintro e w3 ⟨rfl, hb3⟩
      have HB3 := hid (HC2.out.trans (hb3.mono HC2.out.size))
      clear hb3
      go_wp2_with fail
      go_at_call 15
      refine (HKD.out _).mono ?_
      rintro e w4 ⟨q, d, rfl, hv4, hu4, hb4⟩
      have HB4 := hid (HB3.out.trans (hb4.mono HB3.out.size))
      obtain ⟨b2, o2, hbo, hc1⟩ := hv4 1 (.string y.text) rfl
      obtain ⟨b3, o3, hbo3, hc0⟩ := hv4 0 (.string x.text) rfl
      subst hbo
      obtain ⟨rfl, rfl⟩ : b2 = b3 ∧ o2 = o3 := by simpa using hbo3
      have hlt4 := hu4 b2 o2 rfl
      clear hv4 hu4 hbo3
      clear hb4
      go_wp2_with fail
      go_at_call 26
      refine (HK1.out _).mono ?_
      rintro e w5 ⟨rfl, hb5⟩
      have HB5 := hid (HB4.out.trans (hb5.mono HB4.out.size))
      have hc0b : w5.cell? ⟨b2, o2, none⟩ = some (.string x.text) := (hb5.cell (p := ⟨b2, o2, none⟩) hlt4).trans hc0
      clear hb5
      go_wp2_with fail
      go_at_call 26
      refine (HK0.out _).mono ?_
      rintro e w6 ⟨rfl, hb6⟩
      have HB6 := hid (HB5.out.trans (hb6.mono HB5.out.size))
      clear hb6
      go_wp2_with fail
      go_ret
      exact ⟨rfl, HB6.out⟩

  · have h2 : 1048576 < n := by omega
    clear h hl hz hp hv
    go_enter Try.func8, Try.ntmps8
    go_wp2
    go_ret
    exact ⟨rfl, Below.refl _ _⟩
end Go.Proofs.Ytknjpdbdchnpeaa
