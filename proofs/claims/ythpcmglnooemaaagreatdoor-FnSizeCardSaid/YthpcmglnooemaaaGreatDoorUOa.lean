/- Merged: UODrwQ, UOAtmS. -/
import Derived.Test.YthpcmglnooemaaaGreatDoorUM45
import Derived.Test.YthpcmglnooemaaaGreatDoorUM13
import Derived.Test.YthpcmglnooemaaaGreatDoorUM25
namespace Go.Proofs.YthpcmglnooemaaaGreatDoor
open Go.RowKit

/-- A draw of a text that is read as a computation type, if as a type. -/
def DrawnW (b q S : Nat) (w : World) (e : Ending) (w' : World) : Prop := ∃ s : ByteArray, e = .returned (.string s) ∧ s.size ≤ S ∧ WantC s ∧ Rd w' b q ∧ Px b w w'
set_option maxRecDepth 100000 in
set_option maxHeartbeats 2000000 in
theorem rof_mem {w : World} {b q : Nat} (hr : Rd w b q) (hq : q ≤ 1099511627776) (g n c : Nat) (l : List ByteArray) (hl : SV w (some ⟨g, 0, none⟩) n c l) (hn : 1 ≤ n) (hn2 : n ≤ 1000) (hg : g ≠ b) :
    Calls Tryz.prog 48 #[.pointer (some ⟨b, 0, none⟩), .slice (some ⟨g, 0, none⟩) n c] w fun e w' => ∃ s ∈ l, e = .returned (.string s) ∧ Rd w' b (q + 1) ∧ Px b w w' := by
  have HP := hid (pick_any hr hq (n : Int) (by omega))
  have HL := hid hl
  clear hr hl
  go_enter Tryz.func48, Tryz.ntmps48
  go_wp2_with fail
  go_at_call 47
  refine HP.out.mono ?_
  rintro e w1 ⟨x, rfl, hx0, hx1, _, hr1, hp1⟩
  obtain ⟨k, rfl⟩ := Int.eq_ofNat_of_zero_le hx0
  have hk : k < n := by have := hx1 (by omega); omega
  obtain ⟨s, hs⟩ : ∃ s, l[k]? = some s := ⟨_, List.getElem?_eq_getElem (by rw [HL.out.1]; exact hk)⟩
  obtain ⟨g2, hg2, hcell⟩ := HL.out.2.2 k s hs
  obtain rfl : g = g2 := by simpa using hg2
  have hc1 := hp1.cell (a := ⟨g, k, none⟩) hg hcell
  have HS := hid (List.mem_of_getElem? hs)
  have HR := hid hr1
  have HX := hid hp1
  clear hr1 hp1 hcell hg2 hs hx0 hx1
  go_wp2_with fail
  go_ret
  exact ⟨s, HS.out, rfl, HR.out, HX.out⟩

set_option maxRecDepth 100000 in
set_option maxHeartbeats 2000000 in
theorem compW_succ {b d : Nat} (hd : d ≤ 20) (hv : ∀ q w, Rd w b q → q + costT d ≤ 1099511627776 → Calls Tryz.prog 94 #[.pointer (some ⟨b, 0, none⟩), .int .i64 (d : Int)] w (Drawn b (q + costT d) (sizeT d) w))
    (hc : ∀ q w, Rd w b q → q + costT d ≤ 1099511627776 → Calls Tryz.prog 92 #[.pointer (some ⟨b, 0, none⟩), .int .i64 (d : Int)] w (Drawn b (q + costT d) (sizeT d) w))
    (q : Nat) (w : World) (hr : Rd w b q) (hq : q + costT (d + 1) ≤ 1099511627776) : Calls Tryz.prog 92 #[.pointer (some ⟨b, 0, none⟩), .int .i64 ((d : Int) + 1)] w (DrawnW b (q + costT (d + 1)) (sizeT (d + 1)) w) := by
  have HC1 := hid (show costT (d + 1) = 2 * costT d + 3 from rfl)
  have HC2 := hid (show sizeT (d + 1) = 2 * sizeT d + 5 from rfl)
  have HSZ := hid (sizeT_le d hd)
  rw [HC1.out] at hq
  have hne : (((d : Int) + 1) == 0) = false := beq_eq_false_iff_ne.2 (by omega)
  have HP := hid (pick_any hr (by omega) 2 (by omega))
  have HV := hid hv
  have HCC := hid hc
  have HVI := hid (fun (i : Int) (hi : i = (d : Int)) q w (h1 : Rd w b q) (h2 : q + costT d ≤ 1099511627776) => (show Calls Tryz.prog 94 #[.pointer (some ⟨b, 0, none⟩), .int .i64 i] w (Drawn b (q + costT d) (sizeT d) w) from by rw [hi]; exact hv q w h1 h2))
  have hmx : max 0 (d : Int) = (d : Int) := by omega
  clear hr hv hc
  go_enter Tryz.func92, Tryz.ntmps92
  go_wp2_with fail
  go_at_call 47
  refine (HP.out).mono ?_
  rintro e w1 ⟨x1, rfl, hx1a, hx1b, _, hr1, hp1⟩
  have hx1c : x1 < 2 := hx1b (by decide)
  have HR1 := hid hr1
  have HX1 := hid hp1
  clear hr1 hp1 hx1b
  rcases two_cases hx1a hx1c with rfl | rfl
  · go_wp2_with fail
    all_goals
      go_at_call 94
      refine (HVI.out _ (by omega) _ _ HR1.out (by omega)).mono ?_
      rintro e w3 ⟨s3, rfl, hs3, hr3, hp3⟩
      have hz3 : s3.size ≤ 100000000 := Nat.le_trans hs3 HSZ.out
      have HR3 := hid hr3
      have HX3 := hid (HX1.out.trans hp3)
      have HS3 := hid hs3
      clear hr3 hp3 hs3
      go_wp2_with fail
      go_ret
      refine ⟨_, rfl, ?_, (by simp only [ByteArray.append_assoc]; exact wantC_app 102 [32] _ (by decide) (by decide) rfl), HR3.out.le (by rw [HC1.out]; omega), HX3.out⟩
      have := HS3.out
      rw [HC2.out]; simp [ByteArray.size_append, bsz]; omega
  · go_wp2_with fail
    have HP2 := hid (pick_any HR1.out (by omega) 3 (by omega))
    go_at_call 47
    refine (HP2.out).mono ?_
    rintro e w2 ⟨x2, rfl, hx2a, hx2b, _, hr2, hp2⟩
    have hx2c : x2 < 3 := hx2b (by decide)
    have HR2 := hid hr2
    have HX2 := hid (HX1.out.trans hp2)
    clear hr2 hp2 hx2b
    by_cases hz : x2 = 0
    · subst hz
      go_wp2_with fail
      go_at_call 92
      refine (HCC.out _ _ HR2.out (by omega)).mono ?_
      rintro e w3 ⟨s3, rfl, hs3, hr3, hp3⟩
      have hz3 : s3.size ≤ 100000000 := Nat.le_trans hs3 HSZ.out
      have HR3 := hid hr3
      have HX3 := hid (HX2.out.trans hp3)
      have HS3 := hid hs3
      clear hr3 hp3 hs3
      go_wp2_with fail
      go_at_call 92
      refine (HCC.out _ _ HR3.out (by omega)).mono ?_
      rintro e w4 ⟨s4, rfl, hs4, hr4, hp4⟩
      have hz4 : s4.size ≤ 100000000 := Nat.le_trans hs4 HSZ.out
      have HR4 := hid hr4
      have HX4 := hid (HX3.out.trans hp4)
      have HS4 := hid hs4
      clear hr4 hp4 hs4
      go_wp2_with fail
      go_ret
      refine ⟨_, rfl, ?_, (by simp only [ByteArray.append_assoc]; exact wantC_app 38 [32] _ (by decide) (by decide) rfl), HR4.out.le (by rw [HC1.out]; omega), HX4.out⟩
      have := HS3.out
      have := HS4.out
      rw [HC2.out]; simp [ByteArray.size_append, bsz]; omega
    · have hzf : (x2 == 0) = false := beq_eq_false_iff_ne.2 hz
      clear hz
      go_wp2_with fail
      go_at_call 94
      refine (HV.out _ _ HR2.out (by omega)).mono ?_
      rintro e w3 ⟨s3, rfl, hs3, hr3, hp3⟩
      have hz3 : s3.size ≤ 100000000 := Nat.le_trans hs3 HSZ.out
      have HR3 := hid hr3
      have HX3 := hid (HX2.out.trans hp3)
      have HS3 := hid hs3
      clear hr3 hp3 hs3
      go_wp2_with fail
      go_at_call 92
      refine (HCC.out _ _ HR3.out (by omega)).mono ?_
      rintro e w4 ⟨s4, rfl, hs4, hr4, hp4⟩
      have hz4 : s4.size ≤ 100000000 := Nat.le_trans hs4 HSZ.out
      have HR4 := hid hr4
      have HX4 := hid (HX3.out.trans hp4)
      have HS4 := hid hs4
      clear hr4 hp4 hs4
      go_wp2_with fail
      go_ret
      refine ⟨_, rfl, ?_, (by simp only [ByteArray.append_assoc]; exact wantC_app 62 [32] _ (by decide) (by decide) rfl), HR4.out.le (by rw [HC1.out]; omega), HX4.out⟩
      have := HS3.out
      have := HS4.out
      rw [HC2.out]; simp [ByteArray.size_append, bsz]; omega


theorem comp2_any {w : World} {b q : Nat} (hr : Rd w b q) (hq : q + 9 ≤ 1099511627776) : Calls Tryz.prog 92 #[.pointer (some ⟨b, 0, none⟩), .int .i64 2] w (DrawnW b (q + 9) 51 w) :=
  compW_succ (d := 1) (by decide) (types_any b 1 (by decide)).1 (types_any b 1 (by decide)).2 q w hr hq
theorem value2_any {w : World} {b q : Nat} (hr : Rd w b q) (hq : q + 9 ≤ 1099511627776) : Calls Tryz.prog 94 #[.pointer (some ⟨b, 0, none⟩), .int .i64 2] w (Drawn b (q + 9) 51 w) :=
  (types_any b 2 (by decide)).1 q w hr hq

set_option maxRecDepth 100000 in
set_option maxHeartbeats 2000000 in
theorem l91None_any (w : World) : Calls Tryz.prog 91 #[] w fun e w' => ∃ p q, e = .returned (.agg #[.slice p 0 0, .slice q 0 0]) ∧ Below w.heap.size w w' := by
  go_enter Tryz.func91, Tryz.ntmps91
  go_wp2_with fail
  refine bodyPost_ret (v := .agg #[.slice (some ⟨w.heap.size + 1, 0, none⟩) 0 0, .slice (some ⟨w.heap.size + 1 + 1, 0, none⟩) 0 0]) (by simp [results, Tryz.results91, go_sem]) rfl ?_
  exact ⟨_, _, rfl, by first | exact ((Below.refl _ _).alloc (Nat.le_refl _) _).alloc (by simp) _ | exact (((Below.refl _ _).alloc (Nat.le_refl _) _).alloc (by simp) _).alloc (by simp; omega) _⟩
theorem good_M {S : Nat} (hS : S = 60000000) (b k : Nat) (hk : k < 3) (want : ByteArray) (hw : WantC want) (hz : want.size ≤ 51) : TermDraw 83 b (1 + k) want S := by
  have h := (draws_all b (1 + k) (by omega)).2 want hw
  have h1 : mC (1 + k) want.size ≤ mC (1 + k) 51 := by rw [mC_eq, mC_eq]; have := Nat.mul_le_mul_left (mA (1 + k)) hz; omega
  have hle : mC (1 + k) 51 ≤ 60000000 := by
    have : k = 0 ∨ k = 1 ∨ k = 2 := by omega
    rcases this with rfl | rfl | rfl <;> decide
  exact (h (by omega)).le (by omega)
theorem good_V {S : Nat} (hS : S = 60000000) (b k : Nat) (hk : k < 2) (want : ByteArray) (hz : want.size ≤ 51) : TermDraw 93 b (1 + k) want S := by
  have h := (draws_all b (1 + k) (by omega)).1 want
  have h1 : mV (1 + k) want.size ≤ mV (1 + k) 51 := by rw [mV_eq, mV_eq]; have := Nat.mul_le_mul_left (mA (1 + k)) hz; omega
  have hle : mV (1 + k) 51 ≤ 60000000 := by
    have : k = 0 ∨ k = 1 := by omega
    rcases this with rfl | rfl <;> decide
  exact (h (by omega)).le (by omega)
def btL : List ByteArray := [⟨#[40, 102, 32, 98, 41]⟩, ⟨#[40, 102, 32, 98, 41]⟩, ⟨#[40, 102, 32, 40, 42, 32, 98, 32, 98, 41, 41]⟩]
theorem btL_ok : ∀ s ∈ btL, s.size ≤ 11 ∧ WantC s := by
  intro s hs
  simp only [btL, List.mem_cons, List.mem_nil_iff, or_false] at hs
  rcases hs with rfl | rfl | rfl
  · exact ⟨by decide, wantC_fb⟩
  · exact ⟨by decide, wantC_fb⟩
  · exact ⟨by decide, wantC_of (r := [32, 40, 42, 32, 98, 32, 98, 41, 41]) (c := 102) (by rw [Go.ByteArray.toList_eq]) (by decide) (by decide)⟩
theorem btL_lit {w : World} {g : Nat} (h : w.heap.size = g) : SV (w.alloc (.cells #[.string ⟨#[40, 102, 32, 98, 41]⟩, .string ⟨#[40, 102, 32, 98, 41]⟩, .string ⟨#[40, 102, 32, 40, 42, 32, 98, 32, 98, 41, 41]⟩] 9)) (some ⟨g, 0, none⟩) 3 3 btL := by subst h; exact sv_lit w btL 3 3 9 rfl
theorem bits_M {S : Nat} (hS : S = 60000000) (b k : Nat) (hk : k < 3) (want : ByteArray) (hw : want ∈ btL) : TermDraw 83 b (2 + k) want S := by
  obtain ⟨hz, hwc⟩ := btL_ok want hw
  have h := (draws_all b (2 + k) (by omega)).2 want hwc
  have h1 : mC (2 + k) want.size ≤ mC (2 + k) 11 := by rw [mC_eq, mC_eq]; have := Nat.mul_le_mul_left (mA (2 + k)) hz; omega
  have hle : mC (2 + k) 11 ≤ 60000000 := by
    have : k = 0 ∨ k = 1 ∨ k = 2 := by omega
    rcases this with rfl | rfl | rfl <;> decide
  exact (h (by omega)).le (by omega)

set_option maxRecDepth 100000 in
set_option maxHeartbeats 4000000 in
theorem l91Bits_any {S : Nat} (hS : S = 60000000) {w : World} {b q : Nat} (hr : Rd w b q) (hq : q + S + 20 ≤ 400000000) : Calls Tryz.prog 95 #[.pointer (some ⟨b, 0, none⟩)] w (Drawn b (q + S + 20) S w) := by
  have HR0 := hid hr
  have HX0 := hid (Px.refl b w)
  clear hr
  go_enter Tryz.func95, Tryz.ntmps95
  go_wp2_with fail
  go_at_call 91
  refine (l91None_any _).mono ?_
  rintro e w1 ⟨p1, q1, rfl, hb1⟩
  have HR1 := hid (HR0.out.below hb1 HR0.out.lt (Nat.le_refl _))
  have HX1 := hid (show Px b w w1 from Px.below hb1 (Nat.le_refl _))
  clear hb1
  go_wp2_with fail
  go_at_call 48
  refine (rof_mem (HR1.out.alloc _) (by omega) w1.heap.size 3 3 btL (btL_lit rfl) (by omega) (by omega) (by have := HR1.out.lt; omega)).mono ?_
  rintro e w2 ⟨s2, hs2, rfl, hr2, hp2⟩
  have HR2 := hid hr2
  have HX2 := hid ((HX1.out.alloc _).trans hp2)
  have HS2 := hid hs2
  clear hr2 hp2 hs2
  go_wp2_with fail
  go_at_call 47
  refine (pickN_any HR2.out (by omega) 3 (by decide) (by decide) _ rfl).mono ?_
  rintro e w3 ⟨k, rfl, hk, hr3, hp3⟩
  have HR3 := hid hr3
  have HX3 := hid (HX2.out.trans hp3)
  clear hr3 hp3
  go_wp2_with fail
  go_at_call 83
  refine (bits_M hS b k hk s2 HS2.out _ _ _ _ _ _ _ _ _ _ (scp_none rfl rfl rfl) HR3.out (by omega) (by omega) (by omega)).mono ?_
  rintro e w4 ⟨s4, rfl, hs4, hr4, hp4⟩
  have HR4 := hid hr4
  have HX4 := hid (HX3.out.trans hp4)
  have HS4 := hid hs4
  clear hr4 hp4 hs4
  go_wp2_with fail
  go_ret
  exact ⟨_, rfl, HS4.out, HR4.out.le (by omega), HX4.out⟩

set_option maxRecDepth 100000 in
set_option maxHeartbeats 4000000 in
theorem l91Good_any {S : Nat} (hS : S = 60000000) {w : World} {b q : Nat} (hr : Rd w b q) (hq : q + S + 40 ≤ 400000000) : Calls Tryz.prog 66 #[.pointer (some ⟨b, 0, none⟩)] w (Drawn b (q + S + 40) S w) := by
  have HR0 := hid hr
  have HX0 := hid (Px.refl b w)
  clear hr
  go_enter Tryz.func66, Tryz.ntmps66
  go_wp2_with fail
  go_at_call 47
  refine (pickN_any HR0.out (by omega) 4 (by decide) (by decide) _ rfl).mono ?_
  rintro e w1 ⟨x, rfl, hx, hr1, hp1⟩
  have HR1 := hid hr1
  have HX1 := hid hp1
  clear hr1 hp1
  have hcs : x = 0 ∨ x = 1 ∨ x = 2 ∨ x = 3 := by omega
  clear hx
  rcases hcs with rfl | rfl | rfl | rfl
  · go_wp2_with fail
    go_at_call 91
    refine (l91None_any _).mono ?_
    rintro e w2 ⟨p2, q2, rfl, hb2⟩
    have HR2 := hid (HR1.out.below hb2 HR1.out.lt (Nat.le_refl _))
    have HX2 := hid (HX1.out.trans (Px.below hb2 (Nat.le_refl _)))
    clear hb2
    go_wp2_with fail
    go_at_call 92
    refine (comp2_any HR2.out (by omega)).mono ?_
    rintro e w3 ⟨s3, rfl, hs3, hw3, hr3, hp3⟩
    have HR3 := hid hr3
    have HX3 := hid (HX2.out.trans hp3)
    have HS3 := hid hs3
    have HW3 := hid hw3
    clear hr3 hp3 hs3 hw3
    go_wp2_with fail
    go_at_call 47
    refine (pickN_any HR3.out (by omega) 3 (by decide) (by decide) _ rfl).mono ?_
    rintro e w4 ⟨k, rfl, hk, hr4, hp4⟩
    have HR4 := hid hr4
    have HX4 := hid (HX3.out.trans hp4)
    clear hr4 hp4
    go_wp2_with fail
    go_at_call 83
    refine (good_M hS b k hk s3 HW3.out HS3.out _ _ _ _ _ _ _ _ _ _ (scp_none rfl rfl rfl) HR4.out (by omega) (by omega) (by omega)).mono ?_
    rintro e w5 ⟨s5, rfl, hs5, hr5, hp5⟩
    have HR5 := hid hr5
    have HX5 := hid (HX4.out.trans hp5)
    have HS5 := hid hs5
    clear hr5 hp5 hs5
    go_wp2_with fail
    go_ret
    exact ⟨_, rfl, HS5.out, HR5.out.le (by omega), HX5.out⟩
  · go_wp2_with fail
    go_at_call 91
    refine (l91None_any _).mono ?_
    rintro e w2 ⟨p2, q2, rfl, hb2⟩
    have HR2 := hid (HR1.out.below hb2 HR1.out.lt (Nat.le_refl _))
    have HX2 := hid (HX1.out.trans (Px.below hb2 (Nat.le_refl _)))
    clear hb2
    go_wp2_with fail
    go_at_call 94
    refine (value2_any HR2.out (by omega)).mono ?_
    rintro e w3 ⟨s3, rfl, hs3, hr3, hp3⟩
    have HR3 := hid hr3
    have HX3 := hid (HX2.out.trans hp3)
    have HS3 := hid hs3
    skip
    clear hr3 hp3 hs3
    go_wp2_with fail
    go_at_call 47
    refine (pickN_any HR3.out (by omega) 2 (by decide) (by decide) _ rfl).mono ?_
    rintro e w4 ⟨k, rfl, hk, hr4, hp4⟩
    have HR4 := hid hr4
    have HX4 := hid (HX3.out.trans hp4)
    clear hr4 hp4
    go_wp2_with fail
    go_at_call 93
    refine (good_V hS b k hk s3 HS3.out _ _ _ _ _ _ _ _ _ _ (scp_none rfl rfl rfl) HR4.out (by omega) (by omega) (by omega)).mono ?_
    rintro e w5 ⟨s5, rfl, hs5, hr5, hp5⟩
    have HR5 := hid hr5
    have HX5 := hid (HX4.out.trans hp5)
    have HS5 := hid hs5
    clear hr5 hp5 hs5
    go_wp2_with fail
    go_ret
    exact ⟨_, rfl, HS5.out, HR5.out.le (by omega), HX5.out⟩
  · go_wp2_with fail
    go_at_call 95
    refine (l91Bits_any hS HR1.out (by omega)).mono ?_
    rintro e w2 ⟨s2, rfl, hs2, hr2, hp2⟩
    have HR2 := hid hr2
    have HX2 := hid (HX1.out.trans hp2)
    have HS2 := hid hs2
    clear hr2 hp2 hs2
    go_wp2_with fail
    go_ret
    exact ⟨_, rfl, HS2.out, HR2.out.le (by omega), HX2.out⟩
  · go_wp2_with fail
    go_at_call 95
    refine (l91Bits_any hS HR1.out (by omega)).mono ?_
    rintro e w2 ⟨s2, rfl, hs2, hr2, hp2⟩
    have HR2 := hid hr2
    have HX2 := hid (HX1.out.trans hp2)
    have HS2 := hid hs2
    clear hr2 hp2 hs2
    go_wp2_with fail
    go_ret
    exact ⟨_, rfl, HS2.out, HR2.out.le (by omega), HX2.out⟩


mutual
/-- The atoms in order. -/
def Tree.atoms : Tree → List ByteArray
  | .atom s => [s]
  | .node ps => Tree.atomsL ps
def Tree.atomsL : List Tree → List ByteArray
  | [] => []
  | p :: ps => p.atoms ++ Tree.atomsL ps
end
mutual
theorem atoms_len : ∀ t : Tree, t.atoms.length = t.size
  | .atom s => by rw [Tree.atoms, Tree.size]; rfl
  | .node ps => by rw [Tree.atoms, Tree.size]; exact atomsL_len ps
theorem atomsL_len : ∀ ps : List Tree, (Tree.atomsL ps).length = Tree.sizes ps
  | [] => by rw [Tree.atomsL, Tree.sizes]; rfl
  | p :: ps => by rw [Tree.atomsL, Tree.sizes, List.length_append, atoms_len p, atomsL_len ps]
end
theorem atomsL_at {ps : List Tree} {i : Nat} {p : Tree} (h : ps[i]? = some p) : Tree.atomsL (ps.drop i) = p.atoms ++ Tree.atomsL (ps.drop (i + 1)) := by
  rw [drop_at h, Tree.atomsL]
theorem sizes_atD {ps : List Tree} {i : Nat} {p : Tree} (h : ps[i]? = some p) : Tree.sizes (ps.drop i) = p.size + Tree.sizes (ps.drop (i + 1)) := by
  rw [drop_at h, Tree.sizes]
/-- What l7Atoms is asked. -/
def AtomsAsk (w0 : World) (t : Tree) (h : Hd) : Prop := ∀ (L : List ByteArray) (lp : Option Addr) (ln lc base : Nat) (w : World), Kept w0 w → w0.heap.size ≤ w.heap.size → w0.heap.size ≤ base → base ≤ w.heap.size →
  w.ownsRow base 9 1 (.slice lp ln lc) ln (L.map Value.string) → ln + t.size ≤ 50000 →
  Calls Tryz.prog 67 #[.agg #[.string h.a, .slice h.p h.l h.c], .slice lp ln lc] w (FreePost base (.slice lp ln lc) (L ++ t.atoms) w)

set_option maxRecDepth 100000 in
set_option maxHeartbeats 2000000 in
theorem atoms_atom (w0 : World) (a : ByteArray) (hne : a.size ≠ 0) (hm : a.size ≤ maxLen) : AtomsAsk w0 (.atom a) ⟨a, none, 0, 0⟩ := by
  intro L lp ln lc base w hk hw hb0 hbw hown hln
  have he := isEmpty_not a hne
  have HM := hid hm
  have hll : L.length = ln := by have := hown.1; simpa using this
  have HLL := hid hll
  have HOWN := hid (hown.alloc (.cells #[.string a, .slice none 0 0] 49))
  have hlb := hid (fun g e => hown.lt g e)
  rw [Tree.size] at hln
  obtain ⟨i0, hi0, hz0, hz1, hz2⟩ := info_parts Tryz.infoStr
  clear hown hk hw hb0 hll
  go_enter Tryz.func67, Tryz.ntmps67
  go_wp2_with (at_builtin; refine wpList_append_at _ rfl _ _ 25 rfl base 9 i0 (.string ByteArray.empty) 1 16 Tryz.underlying25 hi0 hz0 hz1 hz2 rfl (by decide) (.slice lp ln lc) ln _ rfl (HOWN.out.alloc _) ⟨w.heap.size + 1, 0, none⟩ 1 1 [.string a] rfl rfl (cells_new1 _ _ _ _ (by simp)) (by intro u hu; simp at hu; subst hu; rfl) (by decide) (by unfold maxLen; omega) (by omega) (by simp; omega) ?_; intro v' w2 hown2 hg2 hw2 hv2; obtain ⟨g2, kc2, rfl⟩ := hv2; have HG := hid hg2; have HO := hid hown2; have HW := hid hw2; clear hg2 hown2 hw2)
  go_ret
  have hat : L ++ (Tree.atom a).atoms = L ++ [a] := by rw [Tree.atoms]
  rw [hat]
  refine ⟨some ⟨g2, 0, none⟩, kc2, ?_, ?_, ?_, ?_⟩
  · rw [List.length_append, HLL.out]; rfl
  · rw [List.length_append, HLL.out, List.map_append]; exact HO.out
  · refine ⟨HG.out.os, HG.out.tape, HG.out.output, by have := HG.out.size; simp at this; omega, fun k hk hkr => ?_⟩
    rw [HG.out.block k (by simp; omega) hkr]
    exact ((Kept.refl w).alloc (Nat.le_refl _) _ |>.alloc (by simp) _) k hk
  · rcases HW.out with e | e
    · left; rw [List.length_append, HLL.out]; exact e
    · right; refine ⟨_, by rw [List.length_append, HLL.out]; exact e, by simp; omega⟩

set_option maxRecDepth 100000 in
set_option maxHeartbeats 8000000 in
theorem atoms_go {w0 : World} {ps : List Tree} {b cap n : Nat} {A : Nat → Hd} (hn : ps.length = n) (hn5 : n ≤ 50000)
    (hA : ∀ i, i < n → w0.cell? ⟨b, i * 2, none⟩ = some (.string (A i).a)) (hB : ∀ i, i < n → w0.cell? ⟨b, i * 2 + 1, none⟩ = some (.slice (A i).p (A i).l (A i).c))
    (ih : ∀ i p, ps[i]? = some p → AtomsAsk w0 p (A i)) : AtomsAsk w0 (.node ps) ⟨ByteArray.empty, some ⟨b, 0, none⟩, n, cap⟩ := by
  intro L lp ln lc base w hk hw hb0 hbw hown hln
  have hll : L.length = ln := by have := hown.1; simpa using this
  rw [Tree.size] at hln
  obtain ⟨W0, hW0⟩ : ∃ W0, W0 = w.alloc (.cells #[.string ByteArray.empty, .slice (some ⟨b, 0, none⟩) n cap] 49) := ⟨_, rfl⟩
  have hW0s : W0.heap.size = w.heap.size + 1 := by rw [hW0]; simp
  have hbx0 := heap_new w (.cells #[.string ByteArray.empty, .slice (some ⟨b, 0, none⟩) n cap] 49) w.heap.size rfl
  rw [← hW0] at hbx0
  have hkW : Kept w0 W0 := by rw [hW0]; exact hk.alloc hw _
  have hown0 : W0.ownsRow base 9 1 (.slice lp ln lc) ln (L.map Value.string) := by rw [hW0]; exact hown.alloc _
  have HBW := hid (show Below w.heap.size w W0 from by rw [hW0]; exact (Below.refl _ _).alloc (Nat.le_refl _) _)
  have HBX := hid hbx0
  have HN := hid hn
  have HA := hid hA
  have HB := hid hB
  have HIH := hid ih
  have HK := hid hkW
  have HOWN0 := hid hown0
  have HLT := hid (fun g e => hown.lt g e)
  have HW0 := hid hW0
  have HLL := hid hll
  have hWs2 : w.heap.size < W0.heap.size := by omega
  have hem : (ByteArray.empty : ByteArray).toList.isEmpty = true := isEmpty_of _ rfl
  have HAT := hid (show L ++ (Tree.node ps).atoms = L ++ Tree.atomsL ps by rw [Tree.atoms])
  rw [HAT.out]
  clear hn hA hB ih hk hown hkW hown0 hW0 hbx0 hll
  go_enter Tryz.func67, Tryz.ntmps67
  go_wp2_with fail
  rw [← HW0.out]
  obtain ⟨R, hR⟩ : ∃ R, L ++ Tree.atomsL ps = R := ⟨_, rfl⟩
  have HRR := hid hR
  go_loopw [1, 5] (fun v u wr => ∃ (i m c : Nat) (q : Option Addr) (L1 : List ByteArray), i ≤ n ∧ u = .int .i64 (i : Int) ∧ v = .slice q m c ∧ wr.ownsRow base 9 1 (.slice q m c) m (L1.map Value.string) ∧ W0.grownBy wr (Value.slice lp ln lc).ownBlock ∧
      ((Value.slice q m c).ownBlock = (Value.slice lp ln lc).ownBlock ∨ ∃ g, (Value.slice q m c).ownBlock = some g ∧ W0.heap.size ≤ g) ∧ m + Tree.sizes (ps.drop i) ≤ 50000 ∧ Hid (L1.length = m ∧ L1 ++ Tree.atomsL (ps.drop i) = R)) (fun _ u _ => n - (intOf u).toNat)
  case atStart =>
    exact ⟨0, ln, lc, lp, L, Nat.zero_le _, rfl, rfl, HOWN0.out, World.grownBy.refl _ _, Or.inl rfl, by simpa using hln, hid ⟨HLL.out, by simpa using hR⟩⟩
  case round =>
    obtain ⟨i, m, c, q1, L1, hi, rfl, rfl, hown, hgr, hob, hmw, hL⟩ := hrel
    have hz := hgr.size
    have hbxr : wr.heap[w.heap.size]? = some (.cells #[.string ByteArray.empty, .slice (some ⟨b, 0, none⟩) n cap] 49 (0, 0)) := block_grown HBX.out hgr (fun e => by have := (HLT.out _ e).2; omega)
    have kc2 := cells_of_pair hbxr
    have kc0 := kc2.1
    have kc1 := kc2.2.1
    have kw : Kept w0 wr := fun k hk => (hgr.block k (by omega) (fun e => by have := (HLT.out k e.symm).1; omega)).trans (HK.out k hk)
    have HOB := hid hob
    have HGR := hid hgr
    have HOWN := hid hown
    clear hown hgr hob hbxr kc2
    by_cases hlt : i < n
    · obtain ⟨p, hp⟩ : ∃ p, ps[i]? = some p := ⟨_, List.getElem?_eq_getElem (by rw [HN.out]; exact hlt)⟩
      have d2 : (i : Int) < (n : Int) := by omega
      have hst := atomsL_at hp
      have hsd := sizes_atD hp
      have e0 := kw.cell (HA.out i hlt)
      have e1 := kw.cell (HB.out i hlt)
      have HC := hid ((HIH.out i p hp) L1 q1 m c base wr kw (by omega) (by omega) (by omega) HOWN.out (by omega))
      obtain ⟨L2, hL2⟩ : ∃ L2, L1 ++ p.atoms = L2 := ⟨_, rfl⟩
      have hl2 : L2.length = m + p.size := by rw [← hL2, List.length_append, hL.out.1, atoms_len]
      have HL2 := hid (show L2 ++ Tree.atomsL (ps.drop (i + 1)) = R by rw [← hL2, ← hL.out.2, hst, List.append_assoc])
      rw [hL2] at HC
      have HL22 := hid hl2
      clear hp hst hL kw hL2 hl2
      go_wp2_with fail
      go_at_call 67
      refine HC.out.mono ?_
      rintro e w4 ⟨q4, c4, rfl, hown4, hg4, hb4⟩
      have HO4 := hid hown4
      have HG4 := hid hg4
      have HB4 := hid hb4
      clear hown4 hg4 hb4
      go_wp2_with fail
      go_roundw
      case rel =>
        refine ⟨i + 1, L2.length, c4, q4, L2, by omega, by go_num, rfl, HO4.out, grow_chain HGR.out (Below.refl _ _) HG4.out HOB.out, ?_, by have := HL22.out; omega, hid ⟨rfl, HL2.out⟩⟩
        rcases HB4.out with e | ⟨g, e, hg⟩
        · rw [e]; exact HOB.out
        · exact Or.inr ⟨g, e, by omega⟩
      case measure => simp [intOf]; omega
    · have hin : i = n := by omega
      subst hin
      have he : L1 = R := by
        have := hL.out.2
        rw [List.drop_of_length_le (by rw [HN.out]; omega), Tree.atomsL, List.append_nil] at this
        exact this
      have HE := hid he
      have HLL1 := hid hL.out.1
      clear he hL kw
      go_wp2_with fail
      go_ret
      rw [HRR.out]
      refine ⟨q1, c, ?_, ?_, ?_, ?_⟩
      · rw [← HE.out, HLL1.out]; rfl
      · rw [← HE.out, HLL1.out]; exact HOWN.out
      · exact grow_chain (Below.grownBy HBW.out (Nat.le_refl _)) (Below.refl _ _) HGR.out (Or.inl rfl)
      · rw [← HE.out, HLL1.out]
        rcases HOB.out with e | ⟨g, e, hg⟩
        · exact Or.inl e
        · exact Or.inr ⟨g, e, by omega⟩
/-- THE ATOMS OF A FORM, BY THE MODEL. -/
theorem l7Atoms_any {w0 : World} {S : Nat → Prop} {t : Tree} {h : Hd} (ht : TIn w0 S t h) : t.size ≤ 40000 → t.wt ≤ 40000 → AtomsAsk w0 t h := by
  induction ht with
  | atom a hne hm => intro _ _; exact atoms_atom w0 a hne hm
  | node ps b cap A hp hl hc hS hA hB hps ih =>
    intro hsz hwt
    rw [Tree.size] at hsz
    rw [Tree.wt] at hwt
    have hpl := wts_length ps
    exact atoms_go rfl (by omega) hA hB (fun i p hp => ih i p hp (by have := size_part ps i p hp; omega) (by have := wt_part ps i p hp; omega))

end Go.Proofs.YthpcmglnooemaaaGreatDoor
