/- SourceDefault: the program, the model, the law. -/
import Derived.Test.YtinlibkkbjfmeaaSrcW
import Derived.Test.YtinlibkkbjfmeaaSrcD
import Derived.Test.YtinlibkkbjfmeaaTxP
namespace Go.Proofs.Ytinlibkkbjfmeaa
open Go.RowKit

/-- What SourceDefault answers. -/
def sdX (s : ByteArray) : Option ByteArray := (readSty s).map fun x => x.dfl.txt
set_option maxRecDepth 100000 in
set_option maxHeartbeats 2000000 in
theorem implSourceDefault_any (s : ByteArray) (hs : s.size ≤ 400000000) (w : World) : Calls Try.prog 8 #[.string s] w (TxPost (sdX s) w) := by
  have HC := hid (fun W => readSourceType_any s hs W)
  cases hr : readSty s with
  | none =>
    have HR := hid hr
    have HX := hid (show sdX s = none by rw [sdX, hr]; rfl)
    clear hr
    go_enter Try.func8, Try.ntmps8
    go_wp2_with (go_at_call 12; refine (HC.out _).mono ?_; rintro e w1 hp; rw [HR.out] at hp; obtain ⟨rfl, hb1⟩ := hp.none; clear hp)
    go_ret2
    rw [HX.out]
    exact txPost_none hb1
  | some x =>
    have HR := hid hr
    have HX := hid (show sdX s = some x.dfl.txt by rw [sdX, hr]; rfl)
    have hn := readSty_n hr
    clear hr
    go_enter Try.func8, Try.ntmps8
    go_wp2_with (first | (go_at_call 12; refine (HC.out _).mono ?_; rintro e w1 hp; rw [HR.out] at hp; obtain ⟨a1, rfl, hb1, hn1⟩ := hp.some; clear hp; have HN1 := hid (simple_any hn1 (by omega) w1 (Kept.refl _) (Nat.le_refl _)); clear hn1) | (go_at_call 16; refine HN1.out.mono ?_; rintro e w2 ⟨rfl, hb2⟩))
    go_ret2
    rw [HX.out]
    exact ⟨rfl, hb1.trans (hb2.mono hb1.size)⟩

set_option maxRecDepth 100000 in
set_option maxHeartbeats 2000000 in
theorem specSourceDefault_any (s : ByteArray) (hs : s.size ≤ 400000000) (w : World) : Calls Try.prog 7 #[.string s] w (TxPost (sdX s) w) := by
  have HC := hid (fun W => l7Typed_any s hs W)
  have HE := hid (styTree_eq s)
  cases hr : readSty s with
  | none =>
    have HR := hid (show styTree s = none by rw [HE.out, hr]; rfl)
    have HX := hid (show sdX s = none by rw [sdX, hr]; rfl)
    clear hr
    go_enter Try.func7, Try.ntmps7
    go_wp2_with (go_at_call 9; refine (HC.out _).mono ?_; rintro e w1 hp; rw [HR.out] at hp; obtain ⟨pa, pp, pl, pc, rfl, hpl, hb1⟩ := hp.none; clear hp)
    go_ret2
    rw [HX.out]
    exact txPost_none (hb1.alloc hb1.size _)
  | some x =>
    have HR := hid (show styTree s = some x.tree by rw [HE.out, hr]; rfl)
    have HX := hid (show sdX s = some x.dfl.txt by rw [sdX, hr]; rfl)
    have hn := readSty_n hr
    clear hr
    go_enter Try.func7, Try.ntmps7
    go_wp2_with (first | (go_at_call 9; refine (HC.out _).mono ?_; rintro e w1 hp; rw [HR.out] at hp; obtain ⟨pa, pp, pl, pc, rfl, hb1, ht⟩ := hp.some; clear hp; have HN1 := hid (fun W hk hs => l7Default_any x ht (by omega) W hk hs); clear ht) | (go_at_call 15; refine (HN1.out _ ((Kept.refl _).alloc (Nat.le_refl _) _) (by simp)).mono ?_; rintro e w2 ⟨rfl, hb2⟩))
    go_ret2
    rw [HX.out]
    exact ⟨rfl, hb1.trans (((Below.refl _ _).alloc hb1.size _).trans (hb2.mono (by have := hb1.size; simp; omega)))⟩

set_option maxHeartbeats 1000000 in
theorem lawSourceDefault (s : ByteArray) (hs : s.size ≤ 9223372036854775807) (w : World) : Calls Try.prog 4 #[.string s] w fun e w' => e = .returned (.bool true) ∧ Below w.heap.size w w' := by
  by_cases h : s.size ≤ 1048576
  · have HA := hid (fun W => specSourceDefault_any s (by omega) W)
    have HB := hid (fun W => implSourceDefault_any s (by omega) W)
    obtain ⟨X, D, hX⟩ := txV_shape (sdX s)
    have HP := hid (fun W e W' (h : TxPost (sdX s) W e W') => (show e = .returned (.tuple #[.string X, .bool D]) ∧ Below W.heap.size W W' from by rw [← hX]; exact h))
    have hq : (!X.toList == X.toList) = false := by simp
    have hq2 : (D != D) = false := by simp
    clear hX
    go_enter Try.func4, Try.ntmps4
    go_wp2_with (first | (go_at_call 7; refine (HA.out _).mono ?_; rintro e w1 hp; obtain ⟨rfl, hb1⟩ := HP.out _ _ _ hp; clear hp) | (go_at_call 8; refine (HB.out _).mono ?_; rintro e w2 hp; obtain ⟨rfl, hb2⟩ := HP.out _ _ _ hp; clear hp))
    go_ret
    exact ⟨rfl, hb1.trans (hb2.mono hb1.size)⟩
  · have h2 : 1048576 < s.size := by omega
    clear h
    go_enter Try.func4, Try.ntmps4
    go_wp2
    go_ret
    exact ⟨rfl, Below.refl _ _⟩
end Go.Proofs.Ytinlibkkbjfmeaa
