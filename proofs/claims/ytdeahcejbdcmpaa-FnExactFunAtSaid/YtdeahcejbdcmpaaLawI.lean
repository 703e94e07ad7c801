/- The law of FunAt, walked. -/
import Derived.Test.YtdeahcejbdcmpaaLawH
namespace Go.Proofs.Ytdeahcejbdcmpaa
open Go.RowKit

theorem fn_kids {ty : Ty} (h : ty.headB = 62 ∨ ty.headB = 62) : ∃ x y, ty = .fn x y ∧ ty.kids = [x, y] := by
  cases ty with
  | fn x y => exact ⟨x, y, rfl, rfl⟩
  | pair x y => rcases h with h | h <;> cases h
  | choice x y => rcases h with h | h <;> cases h
  | bit => rcases h with h | h <;> cases h
  | thunk x => rcases h with h | h <;> cases h
  | ret x => rcases h with h | h <;> cases h
theorem heads_fn (t : Ty) : decide (0 ≤ Lib.indexByte (⟨#[62]⟩ : ByteArray).data.toList t.headB) = decide (t.headB = 62 ∨ t.headB = 62) := by
  cases t <;> rfl
/-- The element of a function for an element. -/
def atN (k n a : Nat) : Nat := k / n ^ a % n
theorem pw_pos (n a : Nat) (hn : 1 ≤ n) (hn5 : n ≤ 5000) : 1 ≤ pw n a 1 ∧ pw n a 1 ≤ 25000000 := by
  have h := pw_spec n hn hn5 a 1 (by decide)
  rw [Nat.one_mul] at h
  refine ⟨?_, h.2.2⟩
  by_cases hz : pw n a 1 ≤ 5000
  · rw [h.1 hz]; exact Nat.pow_pos hn
  · omega
theorem pw_div (k n a : Nat) (hk : k ≤ 5000) (hn : 1 ≤ n) (hn5 : n ≤ 5000) : k / pw n a 1 % n = atN k n a := by
  have h := pw_spec n hn hn5 a 1 (by decide)
  rw [Nat.one_mul] at h
  unfold atN
  by_cases hz : pw n a 1 ≤ 5000
  · rw [h.1 hz]
  · have := h.2.1 (by omega)
    rw [Nat.div_eq_of_lt (by omega), Nat.div_eq_of_lt (by omega)]
theorem atN_succ (k n a : Nat) : k / n ^ a / n = k / n ^ (a + 1) := by
  rw [Nat.div_div_eq_div_mul, Nat.pow_succ]
/-- What FunAt tells, of the counts around. -/
def faX (o : Option (List Nat)) (k a : Int) : Option Nat := match o with
  | some [x, y] => if 0 ≤ a ∧ a < (x : Int) then some (atN k.toNat y a.toNat) else none
  | _ => none
def faV : Option Nat → Int
  | some n => (n : Int)
  | none => 0
def FaPost (x : Option Nat) (w : World) (e : Ending) (w' : World) : Prop := e = .returned (.tuple #[.int .i64 (faV x), .bool x.isSome]) ∧ Below w.heap.size w w'
theorem wrap_div (k p : Nat) (hk : k ≤ 5000) : wrap64 ((k : Int) / (p : Int)) = ((k / p : Nat) : Int) := by
  have h := Nat.div_le_self k p
  have e : (k : Int) / (p : Int) = ((k / p : Nat) : Int) := rfl
  rw [e]
  have key : ∀ m : Nat, m ≤ k → wrap64 (m : Int) = m := fun m hm => IntWalk.wrap64_in _ (by omega)
  exact key _ h
theorem wrap_divmod (k p n : Nat) (hk : k ≤ 5000) : (wrap64 ((k : Int) / (p : Int))).tmod (n : Int) = ((k / p % n : Nat) : Int) := by
  rw [wrap_div k p hk]; rfl
theorem nat_mod (k n : Nat) : (k : Int) % (n : Int) = ((k % n : Nat) : Int) := rfl
theorem ret_tup {a b : Int} {c : Bool} (h : a = b) : Ending.returned (.tuple #[.int .i64 a, .bool c]) = .returned (.tuple #[.int .i64 b, .bool c]) := by rw [h]

set_option maxRecDepth 100000 in
set_option maxHeartbeats 1000000 in
theorem funAt_any (k a n : Nat) (hk5 : k ≤ 5000) (ha : a ≤ 5000) (hn : 1 ≤ n) (hn5 : n ≤ 5000) (w : World) :
    Calls Try.prog 23 #[.int .i64 (k : Int), .int .i64 (a : Int), .int .i64 (n : Int)] w fun e w' => e = .returned (.int .i64 ((atN k n a : Nat) : Int)) ∧ w = w' := by
  have hp := pw_pos n a hn hn5
  have HD := hid (pw_div k n a hk5 hn hn5)
  have HP := hid (fun W => countPower_any n a hn5 (by omega) W)
  obtain ⟨P, hP⟩ : ∃ P, pw n a 1 = P := ⟨_, rfl⟩
  rw [hP] at hp HD HP
  have hp1 : 1 ≤ P := hp.1
  have hp2 : P ≤ 25000000 := hp.2
  have hd0 : (0 : Int) ≤ (k : Int) / (P : Int) := Int.ediv_nonneg (by omega) (by omega)
  clear hP hp
  go_enter Try.func23, Try.ntmps23
  go_wp2_with (go_at_call 33; refine (HP.out _).mono ?_; rintro e w1 ⟨rfl, rfl⟩)
  go_ret
  exact ⟨ret_int ((wrap_divmod k P n hk5).trans (by rw [HD.out])), rfl⟩

set_option maxRecDepth 100000 in
set_option maxHeartbeats 2000000 in
theorem implFunAt_any (s : ByteArray) (hs : s.size ≤ 400000000) (k a : Int) (w : World) : Calls Try.prog 9 #[.string s, .int .i64 k, .int .i64 a] w (FaPost (faX (around (readTy s) 62 62 k) k a) w) := by
  have HC := hid (fun W => around_any s ⟨#[62]⟩ hs 62 62 (by decide) (by decide) k W heads_fn)
  rcases elem_cases s 62 62 k with ⟨h1, h2⟩ | ⟨ty, t, xs, n, h1, h2, hty, hkc, hh, hn, hk0, hkn, hn5, hw⟩
  · have H1 := hid h1
    have HX := hid (show faX (around (readTy s) 62 62 k) k a = none by rw [h1]; rfl)
    clear h1 h2
    go_enter Try.func9, Try.ntmps9
    go_wp2_with (go_at_call 18; refine (HC.out _).mono ?_; rintro e w1 hp; rw [H1.out] at hp; obtain ⟨rfl, hb1⟩ := hp.none; clear hp)
    go_ret2
    rw [HX.out]
    exact ⟨rfl, hb1⟩
  · obtain ⟨x, y, rfl, hxy⟩ := fn_kids hh
    rw [hxy] at hkc
    obtain ⟨cx, cy, rfl, hcx, hcy, hx2, hx5, hy2, hy5⟩ := kc_two hkc
    have H1 := hid h1
    have HI := hid (fun W => isElement_any a (cx : Int) W)
    by_cases ha : 0 ≤ a ∧ a < (cx : Int)
    · obtain ⟨kn, rfl⟩ := Int.eq_ofNat_of_zero_le hk0
      obtain ⟨an, rfl⟩ := Int.eq_ofNat_of_zero_le ha.1
      have HX := hid (show faX (around (readTy s) 62 62 (kn : Int)) (kn : Int) (an : Int) = some (atN kn cy an) by rw [h1, faX, if_pos ha]; rfl)
      have HP := hid (fun W => funAt_any kn an cy (by omega) (by omega) (by omega) hy5 W)
      rw [decide_eq_true ha] at HI
      clear h1 h2 hty hkc hh hn hw hxy hcx hcy ha
      go_enter Try.func9, Try.ntmps9
      go_wp2_with (first | (go_at_call 18; refine (HC.out _).mono ?_; rintro e w1 hp; rw [H1.out] at hp; obtain ⟨q, c, rfl, hv, hb1⟩ := hp.some; clear hp; obtain ⟨g, rfl, hc1⟩ := hv 0 _ rfl; obtain ⟨g2, hg2, hc2⟩ := hv 1 _ rfl; obtain rfl : g = g2 := (by simpa using hg2); clear hv hg2) | (go_at_call 22; refine (HI.out _).mono ?_; rintro e w2 ⟨rfl, rfl⟩) | (go_at_call 23; refine (HP.out _).mono ?_; rintro e w3 ⟨rfl, rfl⟩))
      go_ret2
      rw [HX.out]
      exact ⟨rfl, hb1⟩
    · have HX := hid (show faX (around (readTy s) 62 62 k) k a = none by rw [h1, faX, if_neg ha])
      rw [decide_eq_false ha] at HI
      clear h1 h2 hty hkc hh hn hw hxy hcx hcy ha
      go_enter Try.func9, Try.ntmps9
      go_wp2_with (first | (go_at_call 18; refine (HC.out _).mono ?_; rintro e w1 hp; rw [H1.out] at hp; obtain ⟨q, c, rfl, hv, hb1⟩ := hp.some; clear hp; obtain ⟨g, rfl, hc1⟩ := hv 0 _ rfl; clear hv) | (go_at_call 22; refine (HI.out _).mono ?_; rintro e w2 ⟨rfl, rfl⟩))
      go_ret2
      rw [HX.out]
      exact ⟨rfl, hb1⟩

set_option maxRecDepth 100000 in
set_option maxHeartbeats 2000000 in
theorem l1At_any {w0 : World} {S : Nat → Prop} {t : Tree} {h : Hd} (ht : TIn w0 S t h) (x y : Ty) (n : Nat) (hty : t.ty = some (.fn x y)) (hcy : y.cnt = some n) (hn2 : 2 ≤ n) (hn5 : n ≤ 5000) (k a : Nat) (hk : k ≤ 5000) (ha : a ≤ 5000) (w : World) (hk1 : Kept w0 w) (hw : w0.heap.size ≤ w.heap.size) :
    Calls Try.prog 21 #[.agg #[.string h.a, .slice h.p h.l h.c], .int .i64 (k : Int), .int .i64 (a : Int)] w fun e w' => e = .returned (.int .i64 ((atN k n a : Nat) : Int)) ∧ Below w.heap.size w w' := by
  obtain ⟨pa, pp, pl, pc⟩ := h
  obtain ⟨b, A, p1, p2, rfl, rfl, hc3, hcm, hA, hB, ht1, ht2, hi1, hi2⟩ := tree_two ht hty rfl
  have c4 := cell_alloc_old (hk1.cell (hA 2 (by omega))) (.cells #[.string pa, .slice (some ⟨b, 0, none⟩) 3 pc] 34)
  have c5 := cell_alloc_old (hk1.cell (hB 2 (by omega))) (.cells #[.string pa, .slice (some ⟨b, 0, none⟩) 3 pc] 34)
  have HD := hid (fun W hk hs => l1Count_any hi2 y ht2 W hk hs)
  have HV := hid (show cntV y.cnt = (n : Int) by rw [hcy]; rfl)
  have HKW := hid (hk1.alloc hw (.cells #[.string pa, .slice (some ⟨b, 0, none⟩) 3 pc] 34))
  have HS := hid (fun i => atN_succ k n i)
  have HQ := hid (fun i => Nat.le_trans (Nat.div_le_self k (n ^ i)) hk)
  clear ht hA hB ht1 ht2 hi1 hi2 hcy hty hk1
  go_enter Try.func21, Try.ntmps21
  go_wp2_with (go_at_call 17; refine (HD.out _ HKW.out (by simp; omega)).mono ?_; rintro e w1 ⟨he1, hb1⟩; rw [HV.out] at he1; subst he1)
  go_loop [1, 8] (fun v u => ∃ (i q : Nat), i ≤ a ∧ u = .int .i64 (i : Int) ∧ v = .int .i64 (q : Int) ∧ q ≤ 5000 ∧ Hid (q = k / n ^ i)) (fun _ u => a - (intOf u).toNat)
  case atStart => exact ⟨0, k, Nat.zero_le _, rfl, rfl, hk, by show k = _; simp⟩
  case round =>
    obtain ⟨i, q, hi, rfl, rfl, hq5, hq⟩ := hrel
    by_cases hlt : i < a
    · go_wp2_with fail
      go_round
      case rel => exact ⟨i + 1, q / n, by omega, by go_num, by rw [wrap_div q n hq5], Nat.le_trans (Nat.div_le_self _ _) hq5, by show _ = _; rw [hq.out, HS.out]⟩
      case measure => simp [intOf]; omega
    · have hia : i = a := by omega
      have HIA := hid hia
      clear hia
      go_wp2_with fail
      go_ret
      refine ⟨ret_int ((nat_mod q n).trans ?_), ((Below.refl _ _).alloc (by simp) _).trans (hb1.mono (by simp))⟩
      rw [atN, ← HIA.out, ← hq.out]

set_option maxRecDepth 100000 in
set_option maxHeartbeats 2000000 in
theorem specFunAt_any (s : ByteArray) (hs : s.size ≤ 400000000) (k a : Int) (w : World) : Calls Try.prog 8 #[.string s, .int .i64 k, .int .i64 a] w (FaPost (faX (around (readTy s) 62 62 k) k a) w) := by
  have HC := hid (fun W => l1Element_any s hs ⟨#[62]⟩ ⟨#[62]⟩ 62 62 (by rw [Go.ByteArray.toList_eq]) (by rw [Go.ByteArray.toList_eq]) (by decide) (by decide) k W)
  rcases elem_cases s 62 62 k with ⟨h1, h2⟩ | ⟨ty, t, xs, n, h1, h2, hty, hkc, hh, hn, hk0, hkn, hn5, hw⟩
  · have HX := hid (show faX (around (readTy s) 62 62 k) k a = none by rw [h1]; rfl)
    have H2 := hid h2
    clear h1 h2
    go_enter Try.func8, Try.ntmps8
    go_wp2_with (go_at_call 14; refine (HC.out _).mono ?_; rintro e w1 hp; rw [H2.out] at hp; obtain ⟨pa, pp, pl, pc, rfl, hpl, hb1⟩ := hp.none; clear hp)
    go_ret2
    rw [HX.out]
    exact ⟨rfl, hb1.alloc hb1.size _⟩
  · obtain ⟨x, y, rfl, hxy⟩ := fn_kids hh
    rw [hxy] at hkc
    obtain ⟨cx, cy, rfl, hcx, hcy, hx2, hx5, hy2, hy5⟩ := kc_two hkc
    have H2 := hid h2
    have HTY := hid hty
    have HXY := hid hxy
    have HV := hid (show cntV x.cnt = (cx : Int) by rw [hcx]; rfl)
    have HI := hid (fun W => l6In_any a 0 ((cx : Int) - 1) W)
    by_cases ha : 0 ≤ a ∧ a < (cx : Int)
    · obtain ⟨kn, rfl⟩ := Int.eq_ofNat_of_zero_le hk0
      obtain ⟨an, rfl⟩ := Int.eq_ofNat_of_zero_le ha.1
      have HX := hid (show faX (around (readTy s) 62 62 (kn : Int)) (kn : Int) (an : Int) = some (atN kn cy an) by rw [h1, faX, if_pos ha]; rfl)
      have HO := hid (fun (w1 : World) (t : Tree) (hd : Hd) (S : Nat → Prop) (ht : TIn w1 S t hd) (hty : t.ty = some (.fn x y)) W h1 h2 => l1At_any ht x y cy hty hcy hy2 hy5 kn an (by omega) (by omega) W h1 h2)
      rw [decide_eq_true (show 0 ≤ (an : Int) ∧ (an : Int) ≤ (cx : Int) - 1 by omega)] at HI
      clear h1 h2 hty hkc hh hn hw hxy hcx hcy ha
      go_enter Try.func8, Try.ntmps8
      go_wp2_with (first
        | (go_at_call 14; refine (HC.out _).mono ?_; rintro e w1 hp; rw [H2.out] at hp; obtain ⟨pa, pp, pl, pc, rfl, hb1, ht⟩ := hp.some; clear hp; have HT := hid ht; obtain ⟨b, A, p1, p2, rfl, rfl, hc3, hcm, hA, hB, ht1, ht2, hi1, hi2⟩ := tree_two ht HTY.out HXY.out; have c2 := cell_alloc_old (hA 1 (by omega)) (.cells #[.string pa, .slice (some ⟨b, 0, none⟩) 3 pc] 34); have c3 := cell_alloc_old (hB 1 (by omega)) (.cells #[.string pa, .slice (some ⟨b, 0, none⟩) 3 pc] 34); have HD := hid (fun W hk hs => l1Count_any hi1 x ht1 W hk hs); clear ht hA hB ht1 ht2 hi1 hi2)
        | (go_at_call 17; refine (HD.out _ ((Kept.refl _).alloc (Nat.le_refl _) _) (by simp)).mono ?_; rintro e w2 ⟨he2, hb2⟩; rw [HV.out] at he2; subst he2; have k0 := cells_of_pair (block_below (heap_new w1 (.cells #[.string pa, .slice (some ⟨b, 0, none⟩) 3 pc] 34) _ rfl) hb2 (by simp)))
        | (go_at_call 15; refine (HI.out _).mono ?_; rintro e w3 ⟨rfl, rfl⟩)
        | (go_at_call 21; refine (HO.out _ _ _ _ HT.out HTY.out _ (((Kept.refl _).alloc (Nat.le_refl _) _).below hb2 (by simp)) (by have := hb2.size; simp at this; omega)).mono ?_; rintro e w4 ⟨rfl, hb4⟩))
      go_ret2
      rw [HX.out]
      have s1 := hb1.size
      have s2 := hb2.size
      simp at s2
      exact ⟨rfl, hb1.trans (((Below.refl _ _).alloc s1 _).trans ((hb2.mono (by simp; omega)).trans (hb4.mono (by omega))))⟩
    · have HX := hid (show faX (around (readTy s) 62 62 k) k a = none by rw [h1, faX, if_neg ha])
      rw [decide_eq_false (show ¬ (0 ≤ a ∧ a ≤ (cx : Int) - 1) by omega)] at HI
      clear h1 h2 hty hkc hh hn hw hxy hcx hcy ha
      go_enter Try.func8, Try.ntmps8
      go_wp2_with (first
        | (go_at_call 14; refine (HC.out _).mono ?_; rintro e w1 hp; rw [H2.out] at hp; obtain ⟨pa, pp, pl, pc, rfl, hb1, ht⟩ := hp.some; clear hp; obtain ⟨b, A, p1, p2, rfl, rfl, hc3, hcm, hA, hB, ht1, ht2, hi1, hi2⟩ := tree_two ht HTY.out HXY.out; have c2 := cell_alloc_old (hA 1 (by omega)) (.cells #[.string pa, .slice (some ⟨b, 0, none⟩) 3 pc] 34); have c3 := cell_alloc_old (hB 1 (by omega)) (.cells #[.string pa, .slice (some ⟨b, 0, none⟩) 3 pc] 34); have HD := hid (fun W hk hs => l1Count_any hi1 x ht1 W hk hs); clear ht hA hB ht1 ht2 hi1 hi2)
        | (go_at_call 17; refine (HD.out _ ((Kept.refl _).alloc (Nat.le_refl _) _) (by simp)).mono ?_; rintro e w2 ⟨he2, hb2⟩; rw [HV.out] at he2; subst he2)
        | (go_at_call 15; refine (HI.out _).mono ?_; rintro e w3 ⟨rfl, rfl⟩))
      go_ret2
      rw [HX.out]
      have s1 := hb1.size
      exact ⟨rfl, hb1.trans (((Below.refl _ _).alloc s1 _).trans (hb2.mono (by simp; omega)))⟩

set_option maxHeartbeats 1000000 in
theorem lawFunAt (s : ByteArray) (hs : s.size ≤ 9223372036854775807) (k a : Int) (w : World) : Calls Try.prog 4 #[.string s, .int .i64 k, .int .i64 a] w fun e w' => e = .returned (.bool true) ∧ Below w.heap.size w w' := by
  by_cases h : s.size ≤ 1048576
  · have HA := hid (fun W => specFunAt_any s (by omega) k a W)
    have HB := hid (fun W => implFunAt_any s (by omega) k a W)
    unfold FaPost at HA HB
    obtain ⟨r0, h0⟩ : ∃ r, faV (faX (around (readTy s) 62 62 k) k a) = r := ⟨_, rfl⟩
    obtain ⟨r1, h1⟩ : ∃ r, (faX (around (readTy s) 62 62 k) k a).isSome = r := ⟨_, rfl⟩
    rw [h0, h1] at HA HB
    clear h0 h1
    have q0 : (r0 != r0) = false := by simp
    have q1 : (r1 != r1) = false := by simp
    go_enter Try.func4, Try.ntmps4
    go_wp2_with (first | (go_at_call 8; refine (HA.out _).mono ?_; rintro e w1 ⟨rfl, hb1⟩) | (go_at_call 9; refine (HB.out _).mono ?_; rintro e w2 ⟨rfl, hb2⟩))
    go_ret
    exact ⟨rfl, hb1.trans (hb2.mono hb1.size)⟩
  · have h2 : 1048576 < s.size := by omega
    clear h
    go_enter Try.func4, Try.ntmps4
    go_wp2
    go_ret
    exact ⟨rfl, Below.refl _ _⟩
end Go.Proofs.Ytdeahcejbdcmpaa
