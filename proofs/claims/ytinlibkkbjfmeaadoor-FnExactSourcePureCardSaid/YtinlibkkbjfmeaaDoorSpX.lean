/- SourcePure: the program, the model, the law. -/
import Derived.Test.YtinlibkkbjfmeaaDoorSxQ
import Derived.Test.YtinlibkkbjfmeaaDoorSxM
namespace Go.Proofs.YtinlibkkbjfmeaaDoor
open Go.RowKit

/-- What SourcePure answers. -/
def spX (s : ByteArray) : Bool := match readSx s with
  | some e => e.pure
  | none => false
set_option maxRecDepth 100000 in
set_option maxHeartbeats 2000000 in
theorem implSourcePure_any (s : ByteArray) (hs : s.size ≤ 400000000) (w : World) : Calls Tryd.prog 14 #[.string s] w fun r w' => r = .returned (.bool (spX s)) ∧ Below w.heap.size w w' := by
  have HC := hid (fun W => readSource_any s hs W)
  cases hr : readSx s with
  | none =>
    have HR := hid hr
    have HX := hid (show spX s = false by rw [spX, hr])
    clear hr
    go_enter Tryd.func14, Tryd.ntmps14
    go_wp2_with (go_at_call 17; refine (HC.out _).mono ?_; rintro e w1 hp; rw [HR.out] at hp; obtain ⟨p1, rfl, hb1⟩ := hp.none; clear hp)
    go_ret
    exact ⟨ret_bool HX.out.symm, hb1⟩
  | some m =>
    have HR := hid hr
    have HX := hid (show spX s = m.pure by rw [spX, hr])
    clear hr
    go_enter Tryd.func14, Tryd.ntmps14
    go_wp2_with (first | (go_at_call 25; refine HD.out.mono ?_; rintro e w2 ⟨rfl, rfl⟩) | (go_at_call 17; refine (HC.out _).mono ?_; rintro e w1 hp; rw [HR.out] at hp; obtain ⟨a1, rfl, hb1, hn1⟩ := hp.some; clear hp; have HD := hid (isPure_any hn1 w1 (Kept.refl _)); clear hn1))
    go_ret
    exact ⟨ret_bool HX.out.symm, hb1⟩

set_option maxRecDepth 100000 in
set_option maxHeartbeats 2000000 in
theorem specSourcePure_any (s : ByteArray) (hs : s.size ≤ 400000000) (w : World) : Calls Tryd.prog 13 #[.string s] w fun r w' => r = .returned (.bool (spX s)) ∧ Below w.heap.size w w' := by
  have HC := hid (fun W => l7Read_any s hs W)
  have HE := hid (sxTree_eq s)
  cases hr : readSx s with
  | none =>
    have HR := hid (show sxTree s = none by rw [HE.out, hr]; rfl)
    have HX := hid (show spX s = false by rw [spX, hr])
    clear hr
    go_enter Tryd.func13, Tryd.ntmps13
    go_wp2_with (go_at_call 15; refine (HC.out _).mono ?_; rintro e w1 hp; rw [HR.out] at hp; obtain ⟨pa, pp, pl, pc, rfl, hpl, hb1⟩ := hp.none; clear hp)
    go_ret
    exact ⟨ret_bool HX.out.symm, hb1.alloc hb1.size _⟩
  | some m =>
    have HR := hid (show sxTree s = some m.tree by rw [HE.out, hr]; rfl)
    have HX := hid (show spX s = m.pure by rw [spX, hr])
    clear hr
    go_enter Tryd.func13, Tryd.ntmps13
    go_wp2_with (first | (go_at_call 15; refine (HC.out _).mono ?_; rintro e w1 hp; rw [HR.out] at hp; obtain ⟨pa, pp, pl, pc, rfl, hb1, ht⟩ := hp.some; clear hp; have HN1 := hid (fun W hk hs => l7Pure_any m ht W hk hs); clear ht) | (go_at_call 24; refine (HN1.out _ ((Kept.refl _).alloc (Nat.le_refl _) _) (by simp)).mono ?_; rintro e w2 ⟨rfl, hb2⟩))
    go_ret
    exact ⟨ret_bool HX.out.symm, hb1.trans (((Below.refl _ _).alloc hb1.size _).trans (hb2.mono (by have := hb1.size; simp; omega)))⟩

set_option maxHeartbeats 1000000 in
theorem lawSourcePure (s : ByteArray) (hs : s.size ≤ 9223372036854775807) (w : World) : Calls Tryd.prog 5 #[.string s] w fun e w' => e = .returned (.bool true) ∧ Below w.heap.size w w' := by
  by_cases h : s.size ≤ 1048576
  · have HA := hid (fun W => specSourcePure_any s (by omega) W)
    have HB := hid (fun W => implSourcePure_any s (by omega) W)
    obtain ⟨X, hX⟩ : ∃ X, spX s = X := ⟨_, rfl⟩
    rw [hX] at HA HB
    have hq : (X != X) = false := by simp
    clear hX
    go_enter Tryd.func5, Tryd.ntmps5
    go_wp2_with (first | (go_at_call 13; refine (HA.out _).mono ?_; rintro e w1 ⟨rfl, hb1⟩) | (go_at_call 14; refine (HB.out _).mono ?_; rintro e w2 ⟨rfl, hb2⟩))
    go_ret
    exact ⟨rfl, hb1.trans (hb2.mono hb1.size)⟩
  · have h2 : 1048576 < s.size := by omega
    clear h
    go_enter Tryd.func5, Tryd.ntmps5
    go_wp2
    go_ret
    exact ⟨rfl, Below.refl _ _⟩
end Go.Proofs.YtinlibkkbjfmeaaDoor
