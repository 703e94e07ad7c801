/- The law of TypeCount, walked. -/
import Derived.Test.YtamdinbjfbbicabCountE
namespace Go.Proofs.Ytamdinbjfbbicab
open Go.RowKit Go.Maps

set_option maxRecDepth 100000 in
set_option maxHeartbeats 1000000 in
theorem specTypeCount_any (s : ByteArray) (hs : s.size ≤ 2000000) (w : World) : Calls Try.prog 20 #[.string s] w fun e w' => e = .returned (.int .i64 (cntO (readTy s))) ∧ Below w.heap.size w w' := by
  have HC := hid (fun W => l1Type_any s hs W)
  cases ht : typeTree s with
  | none =>
    have HR := hid (typeTree_none ht)
    have HT := hid ht
    clear ht
    go_enter Try.func20, Try.ntmps20
    go_wp2_with (go_at_call 24; refine (HC.out _).mono ?_; rintro e w1 hp; rw [HT.out] at hp; obtain ⟨pa, pp, pl, pc, rfl, hpl, hb1⟩ := hp.none; clear hp)
    go_ret
    exact ⟨ret_int (by rw [HR.out]; rfl), hb1.alloc hb1.size _⟩
  | some t =>
    obtain ⟨hpt, hsz, ty, hty, hrt, hk⟩ := typeTree_some ht
    have HR := hid hrt
    have HTY := hid hty
    have HT := hid ht
    clear ht hpt hty hrt hk
    go_enter Try.func20, Try.ntmps20
    go_wp2_with (first | (go_at_call 24; refine (HC.out _).mono ?_; rintro e w1 hp; rw [HT.out] at hp; obtain ⟨pa, pp, pl, pc, rfl, hb1, htr⟩ := hp.some; clear hp; have HD := hid (fun W hk hs => l1Count_any htr ty HTY.out W hk hs); clear htr) | (go_at_call 32; refine (HD.out _ ((Kept.refl _).alloc (Nat.le_refl _) _) (by simp)).mono ?_; rintro e w2 ⟨rfl, hb2⟩))
    go_ret
    have s1 := hb1.size
    exact ⟨ret_int (by rw [HR.out]; rfl), hb1.trans (((Below.refl _ _).alloc s1 _).trans (hb2.mono (by simp; omega)))⟩
set_option maxHeartbeats 1000000 in
theorem lawTypeCount (s : ByteArray) (hs : s.size ≤ 9223372036854775807) (w : World) : Calls Try.prog 7 #[.string s] w fun e w' => e = .returned (.bool true) ∧ Below w.heap.size w w' := by
  by_cases h : s.size ≤ 1048576
  · have HA := hid (fun W => specTypeCount_any s (by omega) W)
    have HB := hid (fun W => implTypeCount_any s (by omega) W)
    obtain ⟨r, hr⟩ : ∃ r, cntO (readTy s) = r := ⟨_, rfl⟩
    have HR := hid hr
    clear hr
    have hq : (r != r) = false := by simp
    go_enter Try.func7, Try.ntmps7
    go_wp2_with (first | (go_at_call 20; refine (HA.out _).mono ?_; rintro e w1 ⟨he1, hb1⟩; rw [HR.out] at he1; subst he1) | (go_at_call 21; refine (HB.out _).mono ?_; rintro e w2 ⟨he2, hb2⟩; rw [HR.out] at he2; subst he2))
    go_ret
    exact ⟨rfl, hb1.trans (hb2.mono hb1.size)⟩
  · have h2 : 1048576 < s.size := by omega
    clear h
    go_enter Try.func7, Try.ntmps7
    go_wp2
    go_ret
    exact ⟨rfl, Below.refl _ _⟩
end Go.Proofs.Ytamdinbjfbbicab
