/- TermSize: the program, the model, the law. -/
import Derived.Test.YtnphopnhioogdaaDoorSizeN
namespace Go.Proofs.YtnphopnhioogdaaDoor
open Go.RowKit

/-- What TermSize answers. -/
def sizeOfT (s : ByteArray) : Int := match readTm s with
  | some m => (m.size : Int)
  | none => -1
theorem sizeOf_none {s : ByteArray} (h : readTm s = none) : sizeOfT s = -1 := by rw [sizeOfT, h]
theorem sizeOf_some {s : ByteArray} {m : Tm} (h : readTm s = some m) : sizeOfT s = (m.size : Int) := by rw [sizeOfT, h]

set_option maxRecDepth 100000 in
set_option maxHeartbeats 1000000 in
theorem implTermSize_any (s : ByteArray) (hs : s.size ≤ 400000000) (w : World) : Calls Tryd.prog 28 #[.string s] w fun e w' => e = .returned (.int .i64 (sizeOfT s)) ∧ Below w.heap.size w w' := by
  have HC := hid (fun W => readTerm_any s hs W)
  cases hr : readTm s with
  | none =>
    have HR := hid hr
    have HS := hid (sizeOf_none hr)
    clear hr
    go_enter Tryd.func28, Tryd.ntmps28
    go_wp2_with (go_at_call 43; refine (HC.out _).mono ?_; rintro e w1 hp; rw [HR.out] at hp; obtain ⟨rfl, hb1⟩ := hp.none; clear hp)
    go_ret
    exact ⟨ret_int HS.out.symm, hb1⟩
  | some m =>
    have HR := hid hr
    have HS := hid (sizeOf_some hr)
    obtain ⟨t, _, _, _, hms⟩ := readTm_inv hr
    clear hr
    go_enter Tryd.func28, Tryd.ntmps28
    go_wp2_with (first | (go_at_call 51; have _ := hb1; refine (HN.out _ (Kept.refl _) (Nat.le_refl _)).mono ?_; rintro e w2 ⟨rfl, hb2⟩) | (go_at_call 43; refine (HC.out _).mono ?_; rintro e w1 hp; rw [HR.out] at hp; obtain ⟨b, rfl, hb1, hn1⟩ := hp.some; clear hp; have HN := hid (size_any hn1 (by omega)); clear hn1))
    go_ret
    exact ⟨ret_int HS.out.symm, hb1.trans (hb2.mono hb1.size)⟩

set_option maxRecDepth 100000 in
set_option maxHeartbeats 1000000 in
theorem specTermSize_any (s : ByteArray) (hs : s.size ≤ 400000000) (w : World) : Calls Tryd.prog 27 #[.string s] w fun e w' => e = .returned (.int .i64 (sizeOfT s)) ∧ Below w.heap.size w w' := by
  have HC := hid (fun W => l2Term_any s hs W)
  cases ht : termTree s with
  | none =>
    have HR := hid (sizeOf_none (termTree_none ht))
    have HT := hid ht
    clear ht
    go_enter Tryd.func27, Tryd.ntmps27
    go_wp2_with (go_at_call 41; refine (HC.out _).mono ?_; rintro e w1 hp; rw [HT.out] at hp; obtain ⟨pa, pp, pl, pc, rfl, hpl, hb1⟩ := hp.none; clear hp)
    go_ret
    exact ⟨ret_int HR.out.symm, hb1.alloc hb1.size _⟩
  | some t =>
    obtain ⟨hpt, hso, hsz, m, hm, htm⟩ := termTree_some ht
    have HR := hid ((sizeOf_some hm).trans (by rw [← tm_size t [] m htm]))
    have HT := hid ht
    have hsz2 : t.size ≤ 12000 := by omega
    clear ht hpt hso hm htm
    go_enter Tryd.func27, Tryd.ntmps27
    go_wp2_with (first | (go_at_call 41; refine (HC.out _).mono ?_; rintro e w1 hp; rw [HT.out] at hp; obtain ⟨pa, pp, pl, pc, rfl, hb1, htr⟩ := hp.some; clear hp; have HD := hid (fun W hk hs => l1Size_any htr hsz2 W hk hs); clear htr) | (go_at_call 50; refine (HD.out _ ((Kept.refl _).alloc (Nat.le_refl _) _) (by simp)).mono ?_; rintro e w2 ⟨rfl, hb2⟩))
    go_ret
    have s1 := hb1.size
    exact ⟨ret_int HR.out.symm, hb1.trans (((Below.refl _ _).alloc s1 _).trans (hb2.mono (by simp; omega)))⟩

set_option maxHeartbeats 1000000 in
theorem lawTermSize (s : ByteArray) (hs : s.size ≤ 9223372036854775807) (w : World) : Calls Tryd.prog 8 #[.string s] w fun e w' => e = .returned (.bool true) ∧ Below w.heap.size w w' := by
  by_cases h : s.size ≤ 1048576
  · have HA := hid (fun W => specTermSize_any s (by omega) W)
    have HB := hid (fun W => implTermSize_any s (by omega) W)
    have hq : (sizeOfT s != sizeOfT s) = false := by simp
    go_enter Tryd.func8, Tryd.ntmps8
    go_wp2_with (first | (go_at_call 27; refine (HA.out _).mono ?_; rintro e w1 ⟨rfl, hb1⟩) | (go_at_call 28; refine (HB.out _).mono ?_; rintro e w2 ⟨rfl, hb2⟩))
    go_ret
    exact ⟨rfl, hb1.trans (hb2.mono hb1.size)⟩
  · have h2 : 1048576 < s.size := by omega
    clear h
    go_enter Tryd.func8, Tryd.ntmps8
    go_wp2
    go_ret
    exact ⟨rfl, Below.refl _ _⟩
end Go.Proofs.YtnphopnhioogdaaDoor
