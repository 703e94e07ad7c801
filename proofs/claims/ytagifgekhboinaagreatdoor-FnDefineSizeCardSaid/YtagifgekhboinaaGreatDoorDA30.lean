/- Merged: OutP, AtP, AtS, OutS. -/
import Derived.IntWalk
import Derived.Test.YtagifgekhboinaaGreatDoorDA22
import Derived.Test.YtagifgekhboinaaGreatDoorDASSpecT
import Derived.Test.YtagifgekhboinaaGreatDoorDA13
namespace Go.Proofs.YtagifgekhboinaaGreatDoor
open Go.RowKit

/-- An element's outcome for a state, of so many elements. -/
def outc (k st : Int) (n : Nat) : Int := (if st = 1 then k / (2 * (n : Int) + 1) else k) % (2 * (n : Int) + 1)
/-- An outcome is in its range. Both programs divide twice where only the quotient's bound makes the rest of the division needless: k is less than the square. -/
theorem outc_range (k st : Int) (n : Nat) : 0 ≤ outc k st n ∧ outc k st n ≤ 2 * (n : Int) := by
  unfold outc
  have h0 : (0 : Int) < 2 * (n : Int) + 1 := by omega
  have h1 := Int.emod_nonneg (if st = 1 then k / (2 * (n : Int) + 1) else k) (by omega : 2 * (n : Int) + 1 ≠ 0)
  have h2 := Int.emod_lt_of_pos (if st = 1 then k / (2 * (n : Int) + 1) else k) h0
  omega
theorem outc_one (k : Int) (n : Nat) (h0 : 0 ≤ k) (h : k < (2 * (n : Int) + 1) * (2 * (n : Int) + 1)) : outc k 1 n = k / (2 * (n : Int) + 1) := by
  unfold outc
  rw [if_pos rfl]
  have h1 : (0 : Int) < 2 * (n : Int) + 1 := by omega
  exact Int.emod_eq_of_lt (Int.ediv_nonneg h0 (by omega)) (Int.ediv_lt_of_lt_mul h1 h)
set_option maxHeartbeats 1000000 in
theorem outcomeAt_any (k st : Int) (n : Nat) (hk0 : 0 ≤ k) (hk : k ≤ 5000) (hn : n ≤ 5000) (hb : k < (2 * (n : Int) + 1) * (2 * (n : Int) + 1)) (w : World) :
    Calls Tryz.prog 85 #[.int .i64 k, .int .i64 st, .int .i64 (n : Int)] w fun e w' => e = .returned (.int .i64 (outc k st n)) ∧ w = w' := by
  have HO := hid (fun W => (outcomes_any (n : Int) (by omega) (by omega) W).mono fun e w' h => (⟨h.1, h.2.symm⟩ : _ ∧ W = w'))
  have hp : (0 : Int) < 2 * (n : Int) + 1 := by omega
  by_cases h1 : st = 1
  · subst h1
    have HR := hid (outc_one k n hk0 hb)
    clear hb
    go_enter Tryz.func85, Tryz.ntmps85
    go_wp2_with (go_at_call 100; refine (HO.out _).mono ?_; rintro e w1 ⟨rfl, rfl⟩)
    go_ret
    exact ⟨ret_int HR.out.symm, rfl⟩
  · have HR := hid (show outc k st n = k % (2 * (n : Int) + 1) by unfold outc; rw [if_neg h1])
    have d1 : (st == 1) = false := beq_eq_false_iff_ne.2 h1
    clear hb h1
    go_enter Tryz.func85, Tryz.ntmps85
    go_wp2_with (go_at_call 100; refine (HO.out _).mono ?_; rintro e w1 ⟨rfl, rfl⟩)
    go_ret
    exact ⟨ret_int HR.out.symm, rfl⟩



set_option maxRecDepth 100000 in
set_option maxHeartbeats 1000000 in
theorem returnedBy_any (o : Int) (c : Nat) (ho : 1 ≤ o) (ho2 : o ≤ 100000) (hc : 2 ≤ c) (hc5 : c ≤ 5000) (w : World) :
    Calls Tryz.prog 86 #[.int .i64 o, .int .i64 (c : Int)] w fun e w' => e = .returned (.tuple #[.int .i64 ((o - 1) / (c : Int)), .int .i64 ((o - 1) % (c : Int))]) ∧ Below w.heap.size w w' := by
  have wO : IntKind.i64.wrap (o - 1) = o - 1 := IntWalk.i64_in (o - 1) (by omega)
  have hge2 : 0 ≤ o - 1 := by omega
  have hd0 : (0 : Int) ≤ (o - 1) / (c : Int) := Int.ediv_nonneg hge2 (by omega)
  have hd1 : (o - 1) / (c : Int) ≤ o - 1 := Int.ediv_le_self _ hge2
  go_enter Tryz.func86, Tryz.ntmps86
  go_wp2
  go_quiet (fail)
  go_wp2_with fail
  go_ret2
  exact ⟨rfl, below_drewN (Below.refl _ _) _⟩
end Go.Proofs.YtagifgekhboinaaGreatDoor

namespace Go.Proofs.YtagifgekhboinaaGreatDoor
open Go.RowKit

def atN (k n a : Nat) : Nat := k / n ^ a % n
theorem pw_pos (n a : Nat) (hn : 1 ≤ n) (hn5 : n ≤ 5000) : 1 ≤ pw n a 1 ∧ pw n a 1 ≤ 25000000 := by
  have h := pw_spec n hn hn5 a 1 (by decide)
  rw [Nat.one_mul] at h
  refine ⟨?_, h.2.2⟩
  by_cases hz : pw n a 1 ≤ 5000
  · rw [h.1 hz]; exact Nat.pow_pos hn
  · omega
theorem pw_div (k n a : Nat) (hk : k ≤ 5000) (hn : 1 ≤ n) (hn5 : n ≤ 5000) : k / pw n a 1 % n = atN k n a := by
  have h := pw_spec n hn hn5 a 1 (by decide)
  rw [Nat.one_mul] at h
  unfold atN
  by_cases hz : pw n a 1 ≤ 5000
  · rw [h.1 hz]
  · have := h.2.1 (by omega)
    rw [Nat.div_eq_of_lt (by omega), Nat.div_eq_of_lt (by omega)]
theorem atN_succ (k n a : Nat) : k / n ^ a / n = k / n ^ (a + 1) := by
  rw [Nat.div_div_eq_div_mul, Nat.pow_succ]
theorem wrap_div (k p : Nat) (hk : k ≤ 5000) : wrap64 ((k : Int) / (p : Int)) = ((k / p : Nat) : Int) := by
  have h := Nat.div_le_self k p
  have e : (k : Int) / (p : Int) = ((k / p : Nat) : Int) := rfl
  rw [e]
  have key : ∀ m : Nat, m ≤ k → wrap64 (m : Int) = m := fun m hm => IntWalk.wrap64_in _ (by omega)
  exact key _ h
theorem wrap_divmod (k p n : Nat) (hk : k ≤ 5000) : (wrap64 ((k : Int) / (p : Int))).tmod (n : Int) = ((k / p % n : Nat) : Int) := by
  rw [wrap_div k p hk]; rfl
theorem nat_mod (k n : Nat) : (k : Int) % (n : Int) = ((k % n : Nat) : Int) := rfl


set_option maxRecDepth 100000 in
set_option maxHeartbeats 1000000 in
theorem funAt_any (k a n : Nat) (hk5 : k ≤ 5000) (ha : a ≤ 5000) (hn : 1 ≤ n) (hn5 : n ≤ 5000) (w : World) :
    Calls Tryz.prog 87 #[.int .i64 (k : Int), .int .i64 (a : Int), .int .i64 (n : Int)] w fun e w' => e = .returned (.int .i64 ((atN k n a : Nat) : Int)) ∧ w = w' := by
  have hp := pw_pos n a hn hn5
  have HD := hid (pw_div k n a hk5 hn hn5)
  have HP := hid (fun W => countPower_any n a hn5 (by omega) W)
  obtain ⟨P, hP⟩ : ∃ P, pw n a 1 = P := ⟨_, rfl⟩
  rw [hP] at hp HD HP
  have hp1 : 1 ≤ P := hp.1
  have hp2 : P ≤ 25000000 := hp.2
  have hd0 : (0 : Int) ≤ (k : Int) / (P : Int) := Int.ediv_nonneg (by omega) (by omega)
  clear hP hp
  go_enter Tryz.func87, Tryz.ntmps87
  go_wp2_with (go_at_call 101; refine (HP.out _).mono ?_; rintro e w1 ⟨rfl, rfl⟩)
  go_ret
  exact ⟨ret_int ((wrap_divmod k P n hk5).trans (by rw [HD.out])), rfl⟩
end Go.Proofs.YtagifgekhboinaaGreatDoor

namespace Go.Proofs.YtagifgekhboinaaGreatDoor
open Go.RowKit

set_option maxRecDepth 100000 in
set_option maxHeartbeats 2000000 in
theorem l1At_any {w0 : World} {S : Nat → Prop} {t : Tree} {h : Hd} (ht : TIn w0 S t h) (x y : Ty) (n : Nat) (hty : t.ty = some (.fn x y)) (hcy : y.cnt = some n) (hn2 : 2 ≤ n) (hn5 : n ≤ 5000) (k a : Nat) (hk : k ≤ 5000) (ha : a ≤ 5000) (w : World) (hk1 : Kept w0 w) (hw : w0.heap.size ≤ w.heap.size) :
    Calls Tryz.prog 73 #[.agg #[.string h.a, .slice h.p h.l h.c], .int .i64 (k : Int), .int .i64 (a : Int)] w fun e w' => e = .returned (.int .i64 ((atN k n a : Nat) : Int)) ∧ Below w.heap.size w w' := by
  obtain ⟨pa, pp, pl, pc⟩ := h
  obtain ⟨b, A, p1, p2, rfl, rfl, hc3, hcm, hA, hB, ht1, ht2, hi1, hi2⟩ := tree_two ht hty rfl
  have c4 := cell_alloc_old (hk1.cell (hA 2 (by omega))) (.cells #[.string pa, .slice (some ⟨b, 0, none⟩) 3 pc] 48)
  have c5 := cell_alloc_old (hk1.cell (hB 2 (by omega))) (.cells #[.string pa, .slice (some ⟨b, 0, none⟩) 3 pc] 48)
  have HD := hid (fun W hk hs => l1Count_any hi2 y ht2 W hk hs)
  have HV := hid (show cntV y.cnt = (n : Int) by rw [hcy]; rfl)
  have HKW := hid (hk1.alloc hw (.cells #[.string pa, .slice (some ⟨b, 0, none⟩) 3 pc] 48))
  have HS := hid (fun i => atN_succ k n i)
  have HQ := hid (fun i => Nat.le_trans (Nat.div_le_self k (n ^ i)) hk)
  clear ht hA hB ht1 ht2 hi1 hi2 hcy hty hk1
  go_enter Tryz.func73, Tryz.ntmps73
  go_wp2_with (go_at_call 21; refine (HD.out _ HKW.out (by simp; omega)).mono ?_; rintro e w1 ⟨he1, hb1⟩; rw [HV.out] at he1; subst he1)
  go_loop [1, 8] (fun v u => ∃ (i q : Nat), i ≤ a ∧ u = .int .i64 (i : Int) ∧ v = .int .i64 (q : Int) ∧ q ≤ 5000 ∧ Hid (q = k / n ^ i)) (fun _ u => a - (intOf u).toNat)
  case atStart => exact ⟨0, k, Nat.zero_le _, rfl, rfl, hk, by show k = _; simp⟩
  case round =>
    obtain ⟨i, q, hi, rfl, rfl, hq5, hq⟩ := hrel
    by_cases hlt : i < a
    · go_wp2_with fail
      go_round
      case rel => exact ⟨i + 1, q / n, by omega, by go_num, by rw [wrap_div q n hq5], Nat.le_trans (Nat.div_le_self _ _) hq5, by show _ = _; rw [hq.out, HS.out]⟩
      case measure => simp [intOf]; omega
    · have hia : i = a := by omega
      have HIA := hid hia
      clear hia
      go_wp2_with fail
      go_ret
      refine ⟨ret_int ((nat_mod q n).trans ?_), ((Below.refl _ _).alloc (by simp) _).trans (hb1.mono (by simp))⟩
      rw [atN, ← HIA.out, ← hq.out]
end Go.Proofs.YtagifgekhboinaaGreatDoor

namespace Go.Proofs.YtagifgekhboinaaGreatDoor
open Go.RowKit


set_option maxRecDepth 100000 in
set_option maxHeartbeats 2000000 in
theorem l1Outcome_any {w0 : World} {S : Nat → Prop} {t : Tree} {h : Hd} (ht : TIn w0 S t h) (x : Ty) (n : Nat) (hty : t.ty = some (.ret x)) (hcx : x.cnt = some n) (hn2 : 2 ≤ n) (hn5 : n ≤ 5000) (k st : Int) (hk0 : 0 ≤ k) (hk : k ≤ 5000) (w : World) (hk1 : Kept w0 w) (hw : w0.heap.size ≤ w.heap.size) :
    Calls Tryz.prog 50 #[.agg #[.string h.a, .slice h.p h.l h.c], .int .i64 k, .int .i64 st] w fun e w' => e = .returned (.int .i64 (outc k st n)) ∧ Below w.heap.size w w' := by
  obtain ⟨pa, pp, pl, pc⟩ := h
  obtain ⟨b, A, p1, rfl, rfl, hc3, hcm, hA, hB, ht1, hi1⟩ := tree_one ht hty rfl
  have c2 := cell_alloc_old (hk1.cell (hA 1 (by omega))) (.cells #[.string pa, .slice (some ⟨b, 0, none⟩) 2 pc] 48)
  have c3 := cell_alloc_old (hk1.cell (hB 1 (by omega))) (.cells #[.string pa, .slice (some ⟨b, 0, none⟩) 2 pc] 48)
  have HD := hid (fun W hk hs => l1Count_any hi1 x ht1 W hk hs)
  have HV := hid (show cntV x.cnt = (n : Int) by rw [hcx]; rfl)
  have HKW := hid (hk1.alloc hw (.cells #[.string pa, .slice (some ⟨b, 0, none⟩) 2 pc] 48))
  clear ht hA hB ht1 hi1 hcx hty hk1
  have hp : (0 : Int) < 2 * (n : Int) + 1 := by omega
  by_cases h1 : st = 1
  · subst h1
    have HR := hid (show outc k 1 n = k / (2 * (n : Int) + 1) % (2 * (n : Int) + 1) by unfold outc; rw [if_pos rfl])
    have hq0 : 0 ≤ k / (2 * (n : Int) + 1) := Int.ediv_nonneg hk0 (by omega)
    have hq1 : k / (2 * (n : Int) + 1) ≤ 5000 := by have := Int.ediv_le_self (2 * (n : Int) + 1) hk0; omega
    go_enter Tryz.func50, Tryz.ntmps50
    go_wp2_with (go_at_call 21; refine (HD.out _ HKW.out (by simp; omega)).mono ?_; rintro e w1 ⟨he1, hb1⟩; rw [HV.out] at he1; subst he1)
    go_ret
    exact ⟨ret_int HR.out.symm, ((Below.refl _ _).alloc (by simp) _).trans (hb1.mono (by simp))⟩
  · have HR := hid (show outc k st n = k % (2 * (n : Int) + 1) by unfold outc; rw [if_neg h1])
    have d1 : (st == 1) = false := beq_eq_false_iff_ne.2 h1
    clear h1
    go_enter Tryz.func50, Tryz.ntmps50
    go_wp2_with (go_at_call 21; refine (HD.out _ HKW.out (by simp; omega)).mono ?_; rintro e w1 ⟨he1, hb1⟩; rw [HV.out] at he1; subst he1)
    go_ret
    exact ⟨ret_int HR.out.symm, ((Below.refl _ _).alloc (by simp) _).trans (hb1.mono (by simp))⟩
end Go.Proofs.YtagifgekhboinaaGreatDoor
