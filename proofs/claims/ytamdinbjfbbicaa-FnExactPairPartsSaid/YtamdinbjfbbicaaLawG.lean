/- The law of PairParts, walked. -/
import Derived.Test.YtamdinbjfbbicaaElemB
namespace Go.Proofs.Ytamdinbjfbbicaa
open Go.RowKit

/-- What PairParts tells, of the counts around. -/
def pairA (o : Option (List Nat)) (k : Int) : Int := match o with
  | some [_, y] => k / (y : Int)
  | _ => 0
def pairB (o : Option (List Nat)) (k : Int) : Int := match o with
  | some [_, y] => k % (y : Int)
  | _ => 0
def PairPost (o : Option (List Nat)) (k : Int) (w : World) (e : Ending) (w' : World) : Prop :=
  e = .returned (.tuple #[.int .i64 (pairA o k), .int .i64 (pairB o k), .bool o.isSome]) ∧ Below w.heap.size w w'
theorem two_kids {ty : Ty} (h : ty.headB = 42 ∨ ty.headB = 38) : ∃ x y, ty.kids = [x, y] := by
  cases ty with
  | pair x y => exact ⟨x, y, rfl⟩
  | choice x y => exact ⟨x, y, rfl⟩
  | bit => rcases h with h | h <;> cases h
  | thunk x => rcases h with h | h <;> cases h
  | ret x => rcases h with h | h <;> cases h
  | fn x y => rcases h with h | h <;> cases h
theorem heads_pair (t : Ty) : decide (0 ≤ Lib.indexByte (⟨#[42, 38]⟩ : ByteArray).data.toList t.headB) = decide (t.headB = 42 ∨ t.headB = 38) := by
  cases t <;> rfl

set_option maxRecDepth 100000 in
set_option maxHeartbeats 2000000 in
theorem implPairParts_any (s : ByteArray) (hs : s.size ≤ 2000000) (k : Int) (w : World) : Calls Try.prog 14 #[.string s, .int .i64 k] w (PairPost (around (readTy s) 42 38 k) k w) := by
  have HC := hid (fun W => around_any s ⟨#[42, 38]⟩ hs 42 38 (by decide) (by decide) k W heads_pair)
  rcases elem_cases s 42 38 k with ⟨h1, h2⟩ | ⟨ty, t, xs, n, h1, h2, hty, hkc, hh, hn, hk0, hkn, hn5, hw⟩
  · have H1 := hid h1
    clear h1 h2
    go_enter Try.func14, Try.ntmps14
    go_wp2_with (go_at_call 24; refine (HC.out _).mono ?_; rintro e w1 hp; rw [H1.out] at hp; obtain ⟨rfl, hb1⟩ := hp.none; clear hp)
    refine bodyPost_ret (v := .tuple #[.int .i64 0, .int .i64 0, .bool false]) (by simp [results, Try.results14, go_sem]) rfl ?_
    rw [H1.out]
    exact ⟨rfl, hb1⟩
  · obtain ⟨x, y, hxy⟩ := two_kids hh
    rw [hxy] at hkc
    obtain ⟨cx, cy, rfl, _, _, hx2, hx5, hy2, hy5⟩ := kc_two hkc
    have H1 := hid h1
    clear h1 h2 hty hkc hh hn hw hxy
    have hk63 : k ≤ 5000 := by omega
    go_enter Try.func14, Try.ntmps14
    go_wp2_with (go_at_call 24; refine (HC.out _).mono ?_; rintro e w1 hp; rw [H1.out] at hp; obtain ⟨q, c, rfl, hv, hb1⟩ := hp.some; clear hp; obtain ⟨g, rfl, hc1⟩ := hv 1 _ rfl; clear hv)
    go_quiet (fail)
    go_wp2_with fail
    refine bodyPost_ret (v := .tuple #[.int .i64 (k / (cy : Int)), .int .i64 (k % (cy : Int)), .bool true]) (by simp [results, Try.results14, go_sem]) rfl ?_
    rw [H1.out]
    exact ⟨rfl, below_drewN hb1 _⟩

set_option maxRecDepth 100000 in
set_option maxHeartbeats 2000000 in
theorem specPairParts_any (s : ByteArray) (hs : s.size ≤ 2000000) (k : Int) (w : World) : Calls Try.prog 13 #[.string s, .int .i64 k] w (PairPost (around (readTy s) 42 38 k) k w) := by
  have HC := hid (fun W => l1Element_any s hs ⟨#[42]⟩ ⟨#[38]⟩ 42 38 (by rw [Go.ByteArray.toList_eq]) (by rw [Go.ByteArray.toList_eq]) (by decide) (by decide) k W)
  rcases elem_cases s 42 38 k with ⟨h1, h2⟩ | ⟨ty, t, xs, n, h1, h2, hty, hkc, hh, hn, hk0, hkn, hn5, hw⟩
  · have H1 := hid h1
    have H2 := hid h2
    clear h1 h2
    go_enter Try.func13, Try.ntmps13
    go_wp2_with (go_at_call 26; refine (HC.out _).mono ?_; rintro e w1 hp; rw [H2.out] at hp; obtain ⟨pa, pp, pl, pc, rfl, hpl, hb1⟩ := hp.none; clear hp)
    refine bodyPost_ret (v := .tuple #[.int .i64 0, .int .i64 0, .bool false]) (by simp [results, Try.results13, go_sem]) rfl ?_
    rw [H1.out]
    exact ⟨rfl, hb1.alloc hb1.size _⟩
  · obtain ⟨x, y, hxy⟩ := two_kids hh
    rw [hxy] at hkc
    obtain ⟨cx, cy, rfl, hcx, hcy, hx2, hx5, hy2, hy5⟩ := kc_two hkc
    have H1 := hid h1
    have H2 := hid h2
    have HTY := hid hty
    have HXY := hid hxy
    have HV := hid (show cntV y.cnt = (cy : Int) by rw [hcy]; rfl)
    clear h1 h2 hty hkc hh hn hw hxy hcx hcy
    have hk63 : k ≤ 5000 := by omega
    go_enter Try.func13, Try.ntmps13
    go_wp2_with (first
      | (go_at_call 26; refine (HC.out _).mono ?_; rintro e w1 hp; rw [H2.out] at hp; obtain ⟨pa, pp, pl, pc, rfl, hb1, ht⟩ := hp.some; clear hp; obtain ⟨b, A, p1, p2, rfl, rfl, hc3, hcm, hA, hB, ht1, ht2, hi1, hi2⟩ := tree_two ht HTY.out HXY.out; have c4 := cell_alloc_old (hA 2 (by omega)) (.cells #[.string pa, .slice (some ⟨b, 0, none⟩) 3 pc] 51); have c5 := cell_alloc_old (hB 2 (by omega)) (.cells #[.string pa, .slice (some ⟨b, 0, none⟩) 3 pc] 51); have HD := hid (fun W hk hs => l1Count_any hi2 y ht2 W hk hs); clear ht hA hB ht1 ht2 hi1 hi2)
      | (go_at_call 27; refine (HD.out _ ((Kept.refl _).alloc (Nat.le_refl _) _) (by simp)).mono ?_; rintro e w2 ⟨he2, hb2⟩; rw [HV.out] at he2; subst he2))
    go_quiet (fail)
    go_wp2_with fail
    refine bodyPost_ret (v := .tuple #[.int .i64 (k / (cy : Int)), .int .i64 (k % (cy : Int)), .bool true]) (by simp [results, Try.results13, go_sem]) rfl ?_
    rw [H1.out]
    have s1 := hb1.size
    exact ⟨rfl, below_drewN (hb1.trans (((Below.refl _ _).alloc s1 _).trans (hb2.mono (by simp; omega)))) _⟩

set_option maxHeartbeats 1000000 in
theorem lawPairParts (s : ByteArray) (hs : s.size ≤ 9223372036854775807) (k : Int) (w : World) : Calls Try.prog 4 #[.string s, .int .i64 k] w fun e w' => e = .returned (.bool true) ∧ Below w.heap.size w w' := by
  by_cases h : s.size ≤ 1048576
  · have HA := hid (fun W => specPairParts_any s (by omega) k W)
    have HB := hid (fun W => implPairParts_any s (by omega) k W)
    unfold PairPost at HA HB
    obtain ⟨r0, h0⟩ : ∃ r, pairA (around (readTy s) 42 38 k) k = r := ⟨_, rfl⟩
    obtain ⟨r1, h1⟩ : ∃ r, pairB (around (readTy s) 42 38 k) k = r := ⟨_, rfl⟩
    obtain ⟨r2, h2⟩ : ∃ r, (around (readTy s) 42 38 k).isSome = r := ⟨_, rfl⟩
    rw [h0, h1, h2] at HA HB
    clear h0 h1 h2
    have q0 : (r0 != r0) = false := by simp
    have q1 : (r1 != r1) = false := by simp
    have q2 : (r2 != r2) = false := by simp
    go_enter Try.func4, Try.ntmps4
    go_wp2_with (first | (go_at_call 13; refine (HA.out _).mono ?_; rintro e w1 ⟨rfl, hb1⟩) | (go_at_call 14; refine (HB.out _).mono ?_; rintro e w2 ⟨rfl, hb2⟩))
    go_ret
    exact ⟨rfl, hb1.trans (hb2.mono hb1.size)⟩
  · have h2 : 1048576 < s.size := by omega
    clear h
    go_enter Try.func4, Try.ntmps4
    go_wp2
    go_ret
    exact ⟨rfl, Below.refl _ _⟩
end Go.Proofs.Ytamdinbjfbbicaa
