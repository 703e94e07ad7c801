/- The law of ReturnOutcome, walked. -/
import Derived.Test.YtdeahcejbdcmpaaElemB
namespace Go.Proofs.Ytdeahcejbdcmpaa
open Go.RowKit

/-- An element's outcome for a state, of so many elements. -/
def outc (k st : Int) (n : Nat) : Int := (if st = 1 then k / (2 * (n : Int) + 1) else k) % (2 * (n : Int) + 1)
theorem one_kid {ty : Ty} (h : ty.headB = 102 ∨ ty.headB = 102) : ∃ x, ty = .ret x ∧ ty.kids = [x] := by
  cases ty with
  | ret x => exact ⟨x, rfl, rfl⟩
  | pair x y => rcases h with h | h <;> cases h
  | choice x y => rcases h with h | h <;> cases h
  | bit => rcases h with h | h <;> cases h
  | thunk x => rcases h with h | h <;> cases h
  | fn x y => rcases h with h | h <;> cases h
theorem heads_ret (t : Ty) : decide (0 ≤ Lib.indexByte (⟨#[102]⟩ : ByteArray).data.toList t.headB) = decide (t.headB = 102 ∨ t.headB = 102) := by
  cases t <;> rfl
/-- An outcome is in its range. Both programs divide twice where only the quotient's bound makes the rest of the division needless: k is less than the square. -/
theorem outc_range (k st : Int) (n : Nat) : 0 ≤ outc k st n ∧ outc k st n ≤ 2 * (n : Int) := by
  unfold outc
  have h0 : (0 : Int) < 2 * (n : Int) + 1 := by omega
  have h1 := Int.emod_nonneg (if st = 1 then k / (2 * (n : Int) + 1) else k) (by omega : 2 * (n : Int) + 1 ≠ 0)
  have h2 := Int.emod_lt_of_pos (if st = 1 then k / (2 * (n : Int) + 1) else k) h0
  omega
theorem outc_one (k : Int) (n : Nat) (h0 : 0 ≤ k) (h : k < (2 * (n : Int) + 1) * (2 * (n : Int) + 1)) : outc k 1 n = k / (2 * (n : Int) + 1) := by
  unfold outc
  rw [if_pos rfl]
  have h1 : (0 : Int) < 2 * (n : Int) + 1 := by omega
  exact Int.emod_eq_of_lt (Int.ediv_nonneg h0 (by omega)) (Int.ediv_lt_of_lt_mul h1 h)
theorem ret_bound {x : Ty} {n c : Nat} {k : Int} (h : (Ty.ret x).cnt = some n) (hx : x.cnt = some c) (hk : k < (n : Int)) : k < (2 * (c : Int) + 1) * (2 * (c : Int) + 1) := by
  rw [Ty.cnt, hx] at h
  simp only at h
  have := capped_some h
  have h2 : (n : Int) = (2 * (c : Int) + 1) * (2 * (c : Int) + 1) := by rw [this.1]; simp
  omega

set_option maxHeartbeats 1000000 in
theorem outcomeAt_any (k st : Int) (n : Nat) (hk0 : 0 ≤ k) (hk : k ≤ 5000) (hn : n ≤ 5000) (hb : k < (2 * (n : Int) + 1) * (2 * (n : Int) + 1)) (w : World) :
    Calls Try.prog 19 #[.int .i64 k, .int .i64 st, .int .i64 (n : Int)] w fun e w' => e = .returned (.int .i64 (outc k st n)) ∧ w = w' := by
  have HO := hid (fun W => (outcomes_any (n : Int) (by omega) (by omega) W).mono fun e w' h => (⟨h.1, h.2.symm⟩ : _ ∧ W = w'))
  have hp : (0 : Int) < 2 * (n : Int) + 1 := by omega
  by_cases h1 : st = 1
  · subst h1
    have HR := hid (outc_one k n hk0 hb)
    clear hb
    go_enter Try.func19, Try.ntmps19
    go_wp2_with (go_at_call 32; refine (HO.out _).mono ?_; rintro e w1 ⟨rfl, rfl⟩)
    go_ret
    exact ⟨ret_int HR.out.symm, rfl⟩
  · have HR := hid (show outc k st n = k % (2 * (n : Int) + 1) by unfold outc; rw [if_neg h1])
    have d1 : (st == 1) = false := beq_eq_false_iff_ne.2 h1
    clear hb h1
    go_enter Try.func19, Try.ntmps19
    go_wp2_with (go_at_call 32; refine (HO.out _).mono ?_; rintro e w1 ⟨rfl, rfl⟩)
    go_ret
    exact ⟨ret_int HR.out.symm, rfl⟩

/-- What ReturnOutcome tells, of the counts around. -/
def roX (o : Option (List Nat)) (k st : Int) : Option (Int × Nat) := match o with
  | some [n] => if st = 0 ∨ st = 1 then some (outc k st n, n) else none
  | _ => none
def roV (x : Option (Int × Nat)) : Value := match x with
  | some (o, n) => if o = 0 then .tuple #[.bool false, .int .i64 0, .int .i64 0, .bool true] else .tuple #[.bool true, .int .i64 ((o - 1) / (n : Int)), .int .i64 ((o - 1) % (n : Int)), .bool true]
  | none => .tuple #[.bool false, .int .i64 0, .int .i64 0, .bool false]
def RoPost (x : Option (Int × Nat)) (w : World) (e : Ending) (w' : World) : Prop := e = .returned (roV x) ∧ Below w.heap.size w w'
theorem roPost_none {w w' : World} (hb : Below w.heap.size w w') : RoPost none w (.returned (.tuple #[.bool false, .int .i64 0, .int .i64 0, .bool false])) w' := ⟨rfl, hb⟩
theorem roPost_zero {o : Int} {n : Nat} {w w' : World} (h : o = 0) (hb : Below w.heap.size w w') : RoPost (some (o, n)) w (.returned (.tuple #[.bool false, .int .i64 0, .int .i64 0, .bool true])) w' := ⟨by rw [roV, if_pos h], hb⟩
theorem roPost_some {o : Int} {n : Nat} {w w' : World} (h : o ≠ 0) (hb : Below w.heap.size w w') : RoPost (some (o, n)) w (.returned (.tuple #[.bool true, .int .i64 ((o - 1) / (n : Int)), .int .i64 ((o - 1) % (n : Int)), .bool true])) w' := ⟨by rw [roV, if_neg h], hb⟩
theorem roV_shape (x : Option (Int × Nat)) : ∃ a b c d, roV x = .tuple #[.bool a, .int .i64 b, .int .i64 c, .bool d] := by
  match x with
  | none => exact ⟨_, _, _, _, rfl⟩
  | some (o, n) =>
    by_cases h : o = 0
    · exact ⟨_, _, _, _, by rw [roV, if_pos h]⟩
    · exact ⟨_, _, _, _, by rw [roV, if_neg h]⟩

set_option maxRecDepth 100000 in
set_option maxHeartbeats 1000000 in
theorem returnedBy_any (o : Int) (c : Nat) (ho : 1 ≤ o) (ho2 : o ≤ 100000) (hc : 2 ≤ c) (hc5 : c ≤ 5000) (w : World) :
    Calls Try.prog 20 #[.int .i64 o, .int .i64 (c : Int)] w fun e w' => e = .returned (.tuple #[.int .i64 ((o - 1) / (c : Int)), .int .i64 ((o - 1) % (c : Int))]) ∧ Below w.heap.size w w' := by
  have wO : IntKind.i64.wrap (o - 1) = o - 1 := IntWalk.i64_in (o - 1) (by omega)
  have hge2 : 0 ≤ o - 1 := by omega
  have hd0 : (0 : Int) ≤ (o - 1) / (c : Int) := Int.ediv_nonneg hge2 (by omega)
  have hd1 : (o - 1) / (c : Int) ≤ o - 1 := Int.ediv_le_self _ hge2
  go_enter Try.func20, Try.ntmps20
  go_wp2
  go_quiet (fail)
  go_wp2_with fail
  go_ret2
  exact ⟨rfl, below_drewN (Below.refl _ _) _⟩

set_option maxRecDepth 100000 in
set_option maxHeartbeats 2000000 in
theorem implReturnOutcome_any (s : ByteArray) (hs : s.size ≤ 400000000) (k st : Int) (w : World) : Calls Try.prog 7 #[.string s, .int .i64 k, .int .i64 st] w (RoPost (roX (around (readTy s) 102 102 k) k st) w) := by
  have HC := hid (fun W => around_any s ⟨#[102]⟩ hs 102 102 (by decide) (by decide) k W heads_ret)
  rcases elem_cases s 102 102 k with ⟨h1, h2⟩ | ⟨ty, t, xs, n, h1, h2, hty, hkc, hh, hn, hk0, hkn, hn5, hw⟩
  · have H1 := hid h1
    have HX := hid (show roX (around (readTy s) 102 102 k) k st = none by rw [h1]; rfl)
    clear h1 h2
    go_enter Try.func7, Try.ntmps7
    go_wp2_with (go_at_call 18; refine (HC.out _).mono ?_; rintro e w1 hp; rw [H1.out] at hp; obtain ⟨rfl, hb1⟩ := hp.none; clear hp)
    refine bodyPost_ret (v := .tuple #[.bool false, .int .i64 0, .int .i64 0, .bool false]) (by simp [results, Try.results7, go_sem]) rfl ?_
    rw [HX.out]
    exact roPost_none hb1
  · obtain ⟨x, rfl, hxy⟩ := one_kid hh
    rw [hxy] at hkc
    obtain ⟨c, rfl, hcx, hx2, hx5⟩ := kc_one hkc
    have H1 := hid h1
    have hk63 : k ≤ 5000 := by omega
    have hbd := ret_bound hn hcx hkn
    by_cases hst : st = 0 ∨ st = 1
    · have HX := hid (show roX (around (readTy s) 102 102 k) k st = some (outc k st c, c) by rw [h1, roX, if_pos hst])
      have HO := hid (fun W => outcomeAt_any k st c hk0 hk63 hx5 hbd W)
      obtain ⟨hr0, hr1⟩ := outc_range k st c
      obtain ⟨o, ho⟩ : ∃ o, outc k st c = o := ⟨_, rfl⟩
      rw [ho] at HX HO hr0 hr1
      have d0 : (st != 0 && st != 1) = false := by rcases hst with h | h <;> subst h <;> rfl
      clear h1 h2 hty hkc hh hn hw hxy hbd hcx ho
      by_cases hz : o = 0
      · subst hz
        rcases hst with rfl | rfl
        all_goals
          go_enter Try.func7, Try.ntmps7
          go_wp2_with (first | (go_at_call 18; refine (HC.out _).mono ?_; rintro e w1 hp; rw [H1.out] at hp; obtain ⟨q, c2, rfl, hv, hb1⟩ := hp.some; clear hp; obtain ⟨g, rfl, hc1⟩ := hv 0 _ rfl; clear hv) | (go_at_call 19; refine (HO.out _).mono ?_; rintro e w2 ⟨rfl, rfl⟩))
          refine bodyPost_ret (v := .tuple #[.bool false, .int .i64 0, .int .i64 0, .bool true]) (by simp [results, Try.results7, go_sem]) rfl ?_
          rw [HX.out]
          exact roPost_zero rfl hb1
      · have d1 : (o == 0) = false := beq_eq_false_iff_ne.2 hz
        have HZ := hid hz
        have HRB := hid (fun W => returnedBy_any o c (by have := HZ.out; omega) (by omega) hx2 hx5 W)
        clear hz
        rcases hst with rfl | rfl
        all_goals
          go_enter Try.func7, Try.ntmps7
          go_wp2_with (first | (go_at_call 18; refine (HC.out _).mono ?_; rintro e w1 hp; rw [H1.out] at hp; obtain ⟨q, c2, rfl, hv, hb1⟩ := hp.some; clear hp; obtain ⟨g, rfl, hc1⟩ := hv 0 _ rfl; clear hv) | (go_at_call 19; refine (HO.out _).mono ?_; rintro e w2 ⟨rfl, rfl⟩) | (go_at_call 20; refine (HRB.out _).mono ?_; rintro e w3 ⟨rfl, hb3⟩))
          refine bodyPost_ret (v := .tuple #[.bool true, .int .i64 ((o - 1) / (c : Int)), .int .i64 ((o - 1) % (c : Int)), .bool true]) (by simp [results, Try.results7, go_sem]) rfl ?_
          rw [HX.out]
          exact roPost_some HZ.out (hb1.trans (hb3.mono hb1.size))
    · have HX := hid (show roX (around (readTy s) 102 102 k) k st = none by rw [h1, roX, if_neg hst])
      have d0 : (st != 0) = true := bne_iff_ne.2 (fun h => hst (Or.inl h))
      have d1 : (st != 1) = true := bne_iff_ne.2 (fun h => hst (Or.inr h))
      clear h1 h2 hty hkc hh hn hw hxy hbd hcx hst
      go_enter Try.func7, Try.ntmps7
      go_wp2_with (go_at_call 18; refine (HC.out _).mono ?_; rintro e w1 hp; rw [H1.out] at hp; obtain ⟨q, c2, rfl, hv, hb1⟩ := hp.some; clear hp; obtain ⟨g, rfl, hc1⟩ := hv 0 _ rfl; clear hv)
      refine bodyPost_ret (v := .tuple #[.bool false, .int .i64 0, .int .i64 0, .bool false]) (by simp [results, Try.results7, go_sem]) rfl ?_
      rw [HX.out]
      exact roPost_none hb1

set_option maxRecDepth 100000 in
set_option maxHeartbeats 2000000 in
theorem l1Outcome_any {w0 : World} {S : Nat → Prop} {t : Tree} {h : Hd} (ht : TIn w0 S t h) (x : Ty) (n : Nat) (hty : t.ty = some (.ret x)) (hcx : x.cnt = some n) (hn2 : 2 ≤ n) (hn5 : n ≤ 5000) (k st : Int) (hk0 : 0 ≤ k) (hk : k ≤ 5000) (w : World) (hk1 : Kept w0 w) (hw : w0.heap.size ≤ w.heap.size) :
    Calls Try.prog 16 #[.agg #[.string h.a, .slice h.p h.l h.c], .int .i64 k, .int .i64 st] w fun e w' => e = .returned (.int .i64 (outc k st n)) ∧ Below w.heap.size w w' := by
  obtain ⟨pa, pp, pl, pc⟩ := h
  obtain ⟨b, A, p1, rfl, rfl, hc3, hcm, hA, hB, ht1, hi1⟩ := tree_one ht hty rfl
  have c2 := cell_alloc_old (hk1.cell (hA 1 (by omega))) (.cells #[.string pa, .slice (some ⟨b, 0, none⟩) 2 pc] 34)
  have c3 := cell_alloc_old (hk1.cell (hB 1 (by omega))) (.cells #[.string pa, .slice (some ⟨b, 0, none⟩) 2 pc] 34)
  have HD := hid (fun W hk hs => l1Count_any hi1 x ht1 W hk hs)
  have HV := hid (show cntV x.cnt = (n : Int) by rw [hcx]; rfl)
  have HKW := hid (hk1.alloc hw (.cells #[.string pa, .slice (some ⟨b, 0, none⟩) 2 pc] 34))
  clear ht hA hB ht1 hi1 hcx hty hk1
  have hp : (0 : Int) < 2 * (n : Int) + 1 := by omega
  by_cases h1 : st = 1
  · subst h1
    have HR := hid (show outc k 1 n = k / (2 * (n : Int) + 1) % (2 * (n : Int) + 1) by unfold outc; rw [if_pos rfl])
    have hq0 : 0 ≤ k / (2 * (n : Int) + 1) := Int.ediv_nonneg hk0 (by omega)
    have hq1 : k / (2 * (n : Int) + 1) ≤ 5000 := by have := Int.ediv_le_self (2 * (n : Int) + 1) hk0; omega
    go_enter Try.func16, Try.ntmps16
    go_wp2_with (go_at_call 17; refine (HD.out _ HKW.out (by simp; omega)).mono ?_; rintro e w1 ⟨he1, hb1⟩; rw [HV.out] at he1; subst he1)
    go_ret
    exact ⟨ret_int HR.out.symm, ((Below.refl _ _).alloc (by simp) _).trans (hb1.mono (by simp))⟩
  · have HR := hid (show outc k st n = k % (2 * (n : Int) + 1) by unfold outc; rw [if_neg h1])
    have d1 : (st == 1) = false := beq_eq_false_iff_ne.2 h1
    clear h1
    go_enter Try.func16, Try.ntmps16
    go_wp2_with (go_at_call 17; refine (HD.out _ HKW.out (by simp; omega)).mono ?_; rintro e w1 ⟨he1, hb1⟩; rw [HV.out] at he1; subst he1)
    go_ret
    exact ⟨ret_int HR.out.symm, ((Below.refl _ _).alloc (by simp) _).trans (hb1.mono (by simp))⟩

set_option maxRecDepth 100000 in
set_option maxHeartbeats 2000000 in
theorem specReturnOutcome_any (s : ByteArray) (hs : s.size ≤ 400000000) (k st : Int) (w : World) : Calls Try.prog 6 #[.string s, .int .i64 k, .int .i64 st] w (RoPost (roX (around (readTy s) 102 102 k) k st) w) := by
  have HC := hid (fun W => l1Element_any s hs ⟨#[102]⟩ ⟨#[102]⟩ 102 102 (by rw [Go.ByteArray.toList_eq]) (by rw [Go.ByteArray.toList_eq]) (by decide) (by decide) k W)
  have HI := hid (fun W => l6In_any st 0 1 W)
  rcases elem_cases s 102 102 k with ⟨h1, h2⟩ | ⟨ty, t, xs, n, h1, h2, hty, hkc, hh, hn, hk0, hkn, hn5, hw⟩
  · have HX := hid (show roX (around (readTy s) 102 102 k) k st = none by rw [h1]; rfl)
    have H2 := hid h2
    clear h1 h2
    go_enter Try.func6, Try.ntmps6
    go_wp2_with (go_at_call 14; refine (HC.out _).mono ?_; rintro e w1 hp; rw [H2.out] at hp; obtain ⟨pa, pp, pl, pc, rfl, hpl, hb1⟩ := hp.none; clear hp)
    refine bodyPost_ret (v := .tuple #[.bool false, .int .i64 0, .int .i64 0, .bool false]) (by simp [results, Try.results6, go_sem]) rfl ?_
    rw [HX.out]
    exact roPost_none (hb1.alloc hb1.size _)
  · obtain ⟨x, rfl, hxy⟩ := one_kid hh
    rw [hxy] at hkc
    obtain ⟨c, rfl, hcx, hx2, hx5⟩ := kc_one hkc
    have H2 := hid h2
    have hk63 : k ≤ 5000 := by omega
    by_cases hst : st = 0 ∨ st = 1
    · have HX := hid (show roX (around (readTy s) 102 102 k) k st = some (outc k st c, c) by rw [h1, roX, if_pos hst])
      have HO := hid (fun (w1 : World) (t : Tree) (hd : Hd) (S : Nat → Prop) (ht : TIn w1 S t hd) (hty : t.ty = some (.ret x)) W h1 h2 => l1Outcome_any ht x c hty hcx hx2 hx5 k st hk0 hk63 W h1 h2)
      obtain ⟨hr0, hr1⟩ := outc_range k st c
      obtain ⟨o, ho⟩ : ∃ o, outc k st c = o := ⟨_, rfl⟩
      rw [ho] at HX HO hr0 hr1
      have dst : decide (0 ≤ st ∧ st ≤ 1) = true := decide_eq_true (by omega)
      rw [dst] at HI
      have HTY := hid hty
      have HXY := hid hxy
      have HV := hid (show cntV x.cnt = (c : Int) by rw [hcx]; rfl)
      clear h1 h2 hty hkc hh hn hw hxy hcx ho hst dst
      by_cases hz : o = 0
      · subst hz
        go_enter Try.func6, Try.ntmps6
        go_wp2_with (first | (go_at_call 14; refine (HC.out _).mono ?_; rintro e w1 hp; rw [H2.out] at hp; obtain ⟨pa, pp, pl, pc, rfl, hb1, ht⟩ := hp.some; clear hp; have HT := hid ht; clear ht) | (go_at_call 15; refine (HI.out _).mono ?_; rintro e w2 ⟨rfl, rfl⟩) | (go_at_call 16; refine (HO.out _ _ _ _ HT.out HTY.out _ ((Kept.refl _).alloc (Nat.le_refl _) _) (by simp)).mono ?_; rintro e w3 ⟨rfl, hb3⟩))
        refine bodyPost_ret (v := .tuple #[.bool false, .int .i64 0, .int .i64 0, .bool true]) (by simp [results, Try.results6, go_sem]) rfl ?_
        rw [HX.out]
        have s1 := hb1.size
        exact roPost_zero rfl (hb1.trans (((Below.refl _ _).alloc s1 _).trans (hb3.mono (by simp; omega))))
      · have d1 : (o == 0) = false := beq_eq_false_iff_ne.2 hz
        have HZ := hid hz
        clear hz
        go_enter Try.func6, Try.ntmps6
        go_wp2_with (first
          | (go_at_call 14; refine (HC.out _).mono ?_; rintro e w1 hp; rw [H2.out] at hp; obtain ⟨pa, pp, pl, pc, rfl, hb1, ht⟩ := hp.some; clear hp; have HT := hid ht; obtain ⟨b, A, p1, rfl, rfl, hc3, hcm, hA, hB, ht1, hi1⟩ := tree_one ht HTY.out HXY.out; have c2 := cell_alloc_old (hA 1 (by omega)) (.cells #[.string pa, .slice (some ⟨b, 0, none⟩) 2 pc] 34); have c3 := cell_alloc_old (hB 1 (by omega)) (.cells #[.string pa, .slice (some ⟨b, 0, none⟩) 2 pc] 34); have HD := hid (fun W hk hs => l1Count_any hi1 x ht1 W hk hs); have HCC := hid (⟨c2, c3⟩ : _ ∧ _); clear ht hA hB ht1 hi1 c2 c3)
          | (go_at_call 15; refine (HI.out _).mono ?_; rintro e w2 ⟨rfl, rfl⟩)
          | (go_at_call 16; refine (HO.out _ _ _ _ HT.out HTY.out _ ((Kept.refl _).alloc (Nat.le_refl _) _) (by simp)).mono ?_; rintro e w3 ⟨rfl, hb3⟩; have k0 := cells_of_pair (block_below (heap_new w1 (.cells #[.string pa, .slice (some ⟨b, 0, none⟩) 2 pc] 34) _ rfl) hb3 (by simp)); have c2 := (Kept.of_below hb3 (Nat.le_refl _)).cell HCC.out.1; have c3 := (Kept.of_below hb3 (Nat.le_refl _)).cell HCC.out.2)
          | (go_at_call 17; refine (HD.out _ (((Kept.refl _).alloc (Nat.le_refl _) _).below hb3 (by simp)) (by have := hb3.size; simp at this; omega)).mono ?_; rintro e w4 ⟨he4, hb4⟩; rw [HV.out] at he4; subst he4))
        have hge : 1 ≤ o := by have := HZ.out; omega
        have wO : IntKind.i64.wrap (o - 1) = o - 1 := IntWalk.i64_in (o - 1) (by omega)
        have hge2 : 0 ≤ o - 1 := by omega
        go_quiet (fail)
        go_wp2_with fail
        refine bodyPost_ret (v := .tuple #[.bool true, .int .i64 ((o - 1) / (c : Int)), .int .i64 ((o - 1) % (c : Int)), .bool true]) (by simp [results, Try.results6, go_sem]) rfl ?_
        rw [HX.out]
        have s1 := hb1.size
        have s3 := hb3.size
        simp at s3
        exact roPost_some HZ.out (below_drewN (hb1.trans (((Below.refl _ _).alloc s1 _).trans ((hb3.mono (by simp; omega)).trans (hb4.mono (by omega))))) _)
    · have HX := hid (show roX (around (readTy s) 102 102 k) k st = none by rw [h1, roX, if_neg hst])
      have dst : decide (0 ≤ st ∧ st ≤ 1) = false := decide_eq_false (by omega)
      rw [dst] at HI
      clear h1 h2 hty hkc hh hn hw hxy hcx hst dst
      go_enter Try.func6, Try.ntmps6
      go_wp2_with (first | (go_at_call 14; refine (HC.out _).mono ?_; rintro e w1 hp; rw [H2.out] at hp; obtain ⟨pa, pp, pl, pc, rfl, hb1, ht⟩ := hp.some; clear hp ht) | (go_at_call 15; refine (HI.out _).mono ?_; rintro e w2 ⟨rfl, rfl⟩))
      refine bodyPost_ret (v := .tuple #[.bool false, .int .i64 0, .int .i64 0, .bool false]) (by simp [results, Try.results6, go_sem]) rfl ?_
      rw [HX.out]
      exact roPost_none (hb1.alloc hb1.size _)

set_option maxHeartbeats 1000000 in
theorem lawReturnOutcome (s : ByteArray) (hs : s.size ≤ 9223372036854775807) (k st : Int) (w : World) : Calls Try.prog 3 #[.string s, .int .i64 k, .int .i64 st] w fun e w' => e = .returned (.bool true) ∧ Below w.heap.size w w' := by
  by_cases h : s.size ≤ 1048576
  · have HA := hid (fun W => specReturnOutcome_any s (by omega) k st W)
    have HB := hid (fun W => implReturnOutcome_any s (by omega) k st W)
    unfold RoPost at HA HB
    obtain ⟨r0, r1, r2, r3, hr⟩ := roV_shape (roX (around (readTy s) 102 102 k) k st)
    rw [hr] at HA HB
    clear hr
    have q0 : (r0 != r0) = false := by simp
    have q1 : (r1 != r1) = false := by simp
    have q2 : (r2 != r2) = false := by simp
    have q3 : (r3 != r3) = false := by simp
    go_enter Try.func3, Try.ntmps3
    go_wp2_with (first | (go_at_call 6; refine (HA.out _).mono ?_; rintro e w1 ⟨rfl, hb1⟩) | (go_at_call 7; refine (HB.out _).mono ?_; rintro e w2 ⟨rfl, hb2⟩))
    go_ret
    exact ⟨rfl, hb1.trans (hb2.mono hb1.size)⟩
  · have h2 : 1048576 < s.size := by omega
    clear h
    go_enter Try.func3, Try.ntmps3
    go_wp2
    go_ret
    exact ⟨rfl, Below.refl _ _⟩
end Go.Proofs.Ytdeahcejbdcmpaa
