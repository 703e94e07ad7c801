/- Draws of a text from a list, of types. -/
import Derived.Test.YtknjpdbdchnpeaaDrwB
namespace Go.Proofs.Ytknjpdbdchnpeaa
open Go.RowKit

/-- What a draw of a text tells: some text of at most so many bytes. -/
def Drawn (b q S : Nat) (w : World) (e : Ending) (w' : World) : Prop := ∃ s : ByteArray, e = .returned (.string s) ∧ s.size ≤ S ∧ Rd w' b q ∧ Px b w w'
/-- How many bytes are read at most for a type of a depth. -/
def costT : Nat → Nat
  | 0 => 0
  | d + 1 => 2 * costT d + 3
/-- How many bytes a type of a depth has at most. -/
def sizeT : Nat → Nat
  | 0 => 9
  | d + 1 => 2 * sizeT d + 5
theorem bsz (l : Array UInt8) : (⟨l⟩ : ByteArray).size = l.size := rfl
theorem two_cases {x : Int} (h0 : 0 ≤ x) (h1 : x < 2) : x = 0 ∨ x = 1 := by omega

set_option maxRecDepth 100000 in
set_option maxHeartbeats 2000000 in
/-- A text that is drawn from a list. -/
theorem of_any {w : World} {b q : Nat} (hr : Rd w b q) (hq : q ≤ 1099511627776) (g n c S : Nat) (l : List ByteArray) (hl : SV w (some ⟨g, 0, none⟩) n c l) (hn : 1 ≤ n) (hn2 : n ≤ 1000) (hg : g ≠ b) (hS : ∀ s ∈ l, s.size ≤ S) :
    Calls Try.prog 52 #[.pointer (some ⟨b, 0, none⟩), .slice (some ⟨g, 0, none⟩) n c] w (Drawn b (q + 1) S w) := by
  have HP := hid (pick_any hr hq (n : Int) (by omega))
  have HL := hid hl
  clear hr hl
  go_enter Try.func52, Try.ntmps52
  go_wp2_with fail
  go_at_call 56
  refine HP.out.mono ?_
  rintro e w1 ⟨x, rfl, hx0, hx1, _, hr1, hp1⟩
  obtain ⟨k, rfl⟩ := Int.eq_ofNat_of_zero_le hx0
  have hk : k < n := by have := hx1 (by omega); omega
  obtain ⟨s, hs⟩ : ∃ s, l[k]? = some s := ⟨_, List.getElem?_eq_getElem (by rw [HL.out.1]; exact hk)⟩
  obtain ⟨g2, hg2, hcell⟩ := HL.out.2.2 k s hs
  obtain rfl : g = g2 := by simpa using hg2
  have hc1 := hp1.cell (a := ⟨g, k, none⟩) hg hcell
  have HS := hid (hS s (List.mem_of_getElem? hs))
  have HR := hid hr1
  have HX := hid hp1
  clear hr1 hp1 hcell hg2 hs hS hx0 hx1
  go_wp2_with fail
  go_ret
  exact ⟨s, rfl, HS.out, HR.out, HX.out⟩

set_option maxRecDepth 100000 in
set_option maxHeartbeats 2000000 in
theorem valueT_zero {w : World} {b q : Nat} (hr : Rd w b q) : Calls Try.prog 65 #[.pointer (some ⟨b, 0, none⟩), .int .i64 0] w (Drawn b q 1 w) := by
  have HR := hid hr
  clear hr
  go_enter Try.func65, Try.ntmps65
  go_wp2_with fail
  go_ret
  exact ⟨_, rfl, by decide, HR.out, Px.refl _ _⟩

set_option maxRecDepth 100000 in
set_option maxHeartbeats 2000000 in
theorem compT_zero {w : World} {b q : Nat} (hr : Rd w b q) : Calls Try.prog 66 #[.pointer (some ⟨b, 0, none⟩), .int .i64 0] w (Drawn b q 9 w) := by
  have HV := hid (valueT_zero hr)
  clear hr
  go_enter Try.func66, Try.ntmps66
  go_wp2_with fail
  go_at_call 65
  refine HV.out.mono ?_
  rintro e w1 ⟨s, rfl, hs, hr1, hp1⟩
  have HR := hid hr1
  have HX := hid hp1
  clear hr1 hp1
  go_wp2_with fail
  go_ret
  refine ⟨_, rfl, ?_, HR.out, HX.out⟩
  simp [ByteArray.size_append, bsz]; omega
theorem sizeT_le (d : Nat) (hd : d ≤ 20) : sizeT d ≤ 100000000 := by
  have key : ∀ d, sizeT d + 5 ≤ 14 * 2 ^ d := by
    intro d
    induction d with
    | zero => decide
    | succ d ih => rw [sizeT, Nat.pow_succ]; omega
  have h1 := key d
  have h2 : 2 ^ d ≤ 2 ^ 20 := Nat.pow_le_pow_right (by decide) hd
  omega

set_option maxRecDepth 100000 in
set_option maxHeartbeats 2000000 in
theorem valueT_succ {b d : Nat} (hd : d ≤ 20) (hv : ∀ q w, Rd w b q → q + costT d ≤ 1099511627776 → Calls Try.prog 65 #[.pointer (some ⟨b, 0, none⟩), .int .i64 (d : Int)] w (Drawn b (q + costT d) (sizeT d) w))
    (hc : ∀ q w, Rd w b q → q + costT d ≤ 1099511627776 → Calls Try.prog 66 #[.pointer (some ⟨b, 0, none⟩), .int .i64 (d : Int)] w (Drawn b (q + costT d) (sizeT d) w))
    (q : Nat) (w : World) (hr : Rd w b q) (hq : q + costT (d + 1) ≤ 1099511627776) : Calls Try.prog 65 #[.pointer (some ⟨b, 0, none⟩), .int .i64 ((d : Int) + 1)] w (Drawn b (q + costT (d + 1)) (sizeT (d + 1)) w) := by
  have HC1 := hid (show costT (d + 1) = 2 * costT d + 3 from rfl)
  have HC2 := hid (show sizeT (d + 1) = 2 * sizeT d + 5 from rfl)
  have HSZ := hid (sizeT_le d hd)
  rw [HC1.out] at hq
  have hne : (((d : Int) + 1) == 0) = false := beq_eq_false_iff_ne.2 (by omega)
  have HP := hid (pick_any hr (by omega) 2 (by omega))
  have HV := hid hv
  have HCC := hid hc
  have hmx : max 0 (d : Int) = (d : Int) := by omega
  clear hr hv hc
  go_enter Try.func65, Try.ntmps65
  go_wp2_with fail
  go_at_call 56
  refine (HP.out).mono ?_
  rintro e w1 ⟨x1, rfl, hx1a, hx1b, _, hr1, hp1⟩
  have hx1c : x1 < 2 := hx1b (by decide)
  have HR1 := hid hr1
  have HX1 := hid hp1
  clear hr1 hp1 hx1b
  rcases two_cases hx1a hx1c with rfl | rfl
  · go_wp2_with fail
    go_ret
    refine ⟨_, rfl, ?_, HR1.out.le (by rw [HC1.out]; omega), HX1.out⟩
    rw [HC2.out]; simp [bsz]
  · go_wp2_with fail
    have HP2 := hid (pick_any HR1.out (by omega) 3 (by omega))
    go_at_call 56
    refine (HP2.out).mono ?_
    rintro e w2 ⟨x2, rfl, hx2a, hx2b, _, hr2, hp2⟩
    have hx2c : x2 < 3 := hx2b (by decide)
    have HR2 := hid hr2
    have HX2 := hid (HX1.out.trans hp2)
    clear hr2 hp2 hx2b
    by_cases hz : x2 = 0
    · subst hz
      go_wp2_with fail
      go_at_call 66
      refine (HCC.out _ _ HR2.out (by omega)).mono ?_
      rintro e w3 ⟨s3, rfl, hs3, hr3, hp3⟩
      have hz3 : s3.size ≤ 100000000 := Nat.le_trans hs3 HSZ.out
      have HR3 := hid hr3
      have HX3 := hid (HX2.out.trans hp3)
      have HS3 := hid hs3
      clear hr3 hp3 hs3
      go_wp2_with fail
      go_ret
      refine ⟨_, rfl, ?_, HR3.out.le (by rw [HC1.out]; omega), HX3.out⟩
      have := HS3.out
      rw [HC2.out]; simp [ByteArray.size_append, bsz]; omega
    · have hzf : (x2 == 0) = false := beq_eq_false_iff_ne.2 hz
      clear hz
      go_wp2_with fail
      go_at_call 65
      refine (HV.out _ _ HR2.out (by omega)).mono ?_
      rintro e w3 ⟨s3, rfl, hs3, hr3, hp3⟩
      have hz3 : s3.size ≤ 100000000 := Nat.le_trans hs3 HSZ.out
      have HR3 := hid hr3
      have HX3 := hid (HX2.out.trans hp3)
      have HS3 := hid hs3
      clear hr3 hp3 hs3
      go_wp2_with fail
      go_at_call 65
      refine (HV.out _ _ HR3.out (by omega)).mono ?_
      rintro e w4 ⟨s4, rfl, hs4, hr4, hp4⟩
      have hz4 : s4.size ≤ 100000000 := Nat.le_trans hs4 HSZ.out
      have HR4 := hid hr4
      have HX4 := hid (HX3.out.trans hp4)
      have HS4 := hid hs4
      clear hr4 hp4 hs4
      go_wp2_with fail
      go_ret
      refine ⟨_, rfl, ?_, HR4.out.le (by rw [HC1.out]; omega), HX4.out⟩
      have := HS3.out
      have := HS4.out
      rw [HC2.out]; simp [ByteArray.size_append, bsz]; omega

set_option maxRecDepth 100000 in
set_option maxHeartbeats 2000000 in
theorem compT_succ {b d : Nat} (hd : d ≤ 20) (hv : ∀ q w, Rd w b q → q + costT d ≤ 1099511627776 → Calls Try.prog 65 #[.pointer (some ⟨b, 0, none⟩), .int .i64 (d : Int)] w (Drawn b (q + costT d) (sizeT d) w))
    (hc : ∀ q w, Rd w b q → q + costT d ≤ 1099511627776 → Calls Try.prog 66 #[.pointer (some ⟨b, 0, none⟩), .int .i64 (d : Int)] w (Drawn b (q + costT d) (sizeT d) w))
    (q : Nat) (w : World) (hr : Rd w b q) (hq : q + costT (d + 1) ≤ 1099511627776) : Calls Try.prog 66 #[.pointer (some ⟨b, 0, none⟩), .int .i64 ((d : Int) + 1)] w (Drawn b (q + costT (d + 1)) (sizeT (d + 1)) w) := by
  have HC1 := hid (show costT (d + 1) = 2 * costT d + 3 from rfl)
  have HC2 := hid (show sizeT (d + 1) = 2 * sizeT d + 5 from rfl)
  have HSZ := hid (sizeT_le d hd)
  rw [HC1.out] at hq
  have hne : (((d : Int) + 1) == 0) = false := beq_eq_false_iff_ne.2 (by omega)
  have HP := hid (pick_any hr (by omega) 2 (by omega))
  have HV := hid hv
  have HCC := hid hc
  have HVI := hid (fun (i : Int) (hi : i = (d : Int)) q w (h1 : Rd w b q) (h2 : q + costT d ≤ 1099511627776) => (show Calls Try.prog 65 #[.pointer (some ⟨b, 0, none⟩), .int .i64 i] w (Drawn b (q + costT d) (sizeT d) w) from by rw [hi]; exact hv q w h1 h2))
  have hmx : max 0 (d : Int) = (d : Int) := by omega
  clear hr hv hc
  go_enter Try.func66, Try.ntmps66
  go_wp2_with fail
  go_at_call 56
  refine (HP.out).mono ?_
  rintro e w1 ⟨x1, rfl, hx1a, hx1b, _, hr1, hp1⟩
  have hx1c : x1 < 2 := hx1b (by decide)
  have HR1 := hid hr1
  have HX1 := hid hp1
  clear hr1 hp1 hx1b
  rcases two_cases hx1a hx1c with rfl | rfl
  · go_wp2_with fail
    all_goals
      go_at_call 65
      refine (HVI.out _ (by omega) _ _ HR1.out (by omega)).mono ?_
      rintro e w3 ⟨s3, rfl, hs3, hr3, hp3⟩
      have hz3 : s3.size ≤ 100000000 := Nat.le_trans hs3 HSZ.out
      have HR3 := hid hr3
      have HX3 := hid (HX1.out.trans hp3)
      have HS3 := hid hs3
      clear hr3 hp3 hs3
      go_wp2_with fail
      go_ret
      refine ⟨_, rfl, ?_, HR3.out.le (by rw [HC1.out]; omega), HX3.out⟩
      have := HS3.out
      rw [HC2.out]; simp [ByteArray.size_append, bsz]; omega
  · go_wp2_with fail
    have HP2 := hid (pick_any HR1.out (by omega) 3 (by omega))
    go_at_call 56
    refine (HP2.out).mono ?_
    rintro e w2 ⟨x2, rfl, hx2a, hx2b, _, hr2, hp2⟩
    have hx2c : x2 < 3 := hx2b (by decide)
    have HR2 := hid hr2
    have HX2 := hid (HX1.out.trans hp2)
    clear hr2 hp2 hx2b
    by_cases hz : x2 = 0
    · subst hz
      go_wp2_with fail
      go_at_call 66
      refine (HCC.out _ _ HR2.out (by omega)).mono ?_
      rintro e w3 ⟨s3, rfl, hs3, hr3, hp3⟩
      have hz3 : s3.size ≤ 100000000 := Nat.le_trans hs3 HSZ.out
      have HR3 := hid hr3
      have HX3 := hid (HX2.out.trans hp3)
      have HS3 := hid hs3
      clear hr3 hp3 hs3
      go_wp2_with fail
      go_at_call 66
      refine (HCC.out _ _ HR3.out (by omega)).mono ?_
      rintro e w4 ⟨s4, rfl, hs4, hr4, hp4⟩
      have hz4 : s4.size ≤ 100000000 := Nat.le_trans hs4 HSZ.out
      have HR4 := hid hr4
      have HX4 := hid (HX3.out.trans hp4)
      have HS4 := hid hs4
      clear hr4 hp4 hs4
      go_wp2_with fail
      go_ret
      refine ⟨_, rfl, ?_, HR4.out.le (by rw [HC1.out]; omega), HX4.out⟩
      have := HS3.out
      have := HS4.out
      rw [HC2.out]; simp [ByteArray.size_append, bsz]; omega
    · have hzf : (x2 == 0) = false := beq_eq_false_iff_ne.2 hz
      clear hz
      go_wp2_with fail
      go_at_call 65
      refine (HV.out _ _ HR2.out (by omega)).mono ?_
      rintro e w3 ⟨s3, rfl, hs3, hr3, hp3⟩
      have hz3 : s3.size ≤ 100000000 := Nat.le_trans hs3 HSZ.out
      have HR3 := hid hr3
      have HX3 := hid (HX2.out.trans hp3)
      have HS3 := hid hs3
      clear hr3 hp3 hs3
      go_wp2_with fail
      go_at_call 66
      refine (HCC.out _ _ HR3.out (by omega)).mono ?_
      rintro e w4 ⟨s4, rfl, hs4, hr4, hp4⟩
      have hz4 : s4.size ≤ 100000000 := Nat.le_trans hs4 HSZ.out
      have HR4 := hid hr4
      have HX4 := hid (HX3.out.trans hp4)
      have HS4 := hid hs4
      clear hr4 hp4 hs4
      go_wp2_with fail
      go_ret
      refine ⟨_, rfl, ?_, HR4.out.le (by rw [HC1.out]; omega), HX4.out⟩
      have := HS3.out
      have := HS4.out
      rw [HC2.out]; simp [ByteArray.size_append, bsz]; omega

/-- TYPES THAT ARE DRAWN: some texts. -/
theorem types_any (b : Nat) : ∀ d, d ≤ 20 → (∀ q w, Rd w b q → q + costT d ≤ 1099511627776 → Calls Try.prog 65 #[.pointer (some ⟨b, 0, none⟩), .int .i64 (d : Int)] w (Drawn b (q + costT d) (sizeT d) w)) ∧
    (∀ q w, Rd w b q → q + costT d ≤ 1099511627776 → Calls Try.prog 66 #[.pointer (some ⟨b, 0, none⟩), .int .i64 (d : Int)] w (Drawn b (q + costT d) (sizeT d) w)) := by
  intro d
  induction d with
  | zero => exact fun _ => ⟨fun q w hr _ => (valueT_zero hr).mono fun e w' h => let ⟨s, h1, h2, h3, h4⟩ := h; ⟨s, h1, Nat.le_trans h2 (by decide), h3, h4⟩, fun q w hr _ => (compT_zero hr).mono fun e w' h => let ⟨s, h1, h2, h3, h4⟩ := h; ⟨s, h1, h2, h3, h4⟩⟩
  | succ d ih =>
    intro hd
    have h := ih (by omega)
    exact ⟨valueT_succ (by omega) h.1 h.2, compT_succ (by omega) h.1 h.2⟩
end Go.Proofs.Ytknjpdbdchnpeaa
