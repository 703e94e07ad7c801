/- The law of TypeKind, walked. -/
import Derived.Test.YtamdinbjfbbicabTyR
namespace Go.Proofs.Ytamdinbjfbbicab
open Go.RowKit

set_option maxHeartbeats 1000000 in
theorem implTypeKind_any (s : ByteArray) (hs : s.size ≤ 2000000) (w : World) : Calls Try.prog 10 #[.string s] w fun e w' => e = .returned (.string (kindOf (readTy s))) ∧ Below w.heap.size w w' := by
  have HC := hid (fun W => readType_any s hs W)
  cases hr : readTy s with
  | none =>
    have HR := hid hr
    clear hr
    go_enter Try.func10, Try.ntmps10
    go_wp2_with (go_at_call 26; refine (HC.out _).mono ?_; rintro e w1 hp; rw [HR.out] at hp; obtain ⟨rfl, hb1⟩ := hp.none; clear hp)
    go_ret
    exact ⟨rfl, hb1⟩
  | some ty =>
    cases ty with
    | bit =>
      have mk := m_kind_bit 
      have HR := hid hr
      clear hr
      go_enter Try.func10, Try.ntmps10
      go_wp2_with (first | (go_at_call 26; refine (HC.out _).mono ?_; rintro e w1 hp; rw [HR.out] at hp; obtain ⟨he1, hb1⟩ := hp.some; simp only [Ty.val] at he1; subst he1; clear hp) | (go_at_call 88; refine (kind_bit _).mono ?_; rintro e w2 ⟨rfl, hb2⟩))
      go_ret
      exact ⟨rfl, hb1.trans (hb2.mono hb1.size)⟩
    | pair x y =>
      have mk := m_kind_pair x.val y.val
      have HR := hid hr
      clear hr
      go_enter Try.func10, Try.ntmps10
      go_wp2_with (first | (go_at_call 26; refine (HC.out _).mono ?_; rintro e w1 hp; rw [HR.out] at hp; obtain ⟨he1, hb1⟩ := hp.some; simp only [Ty.val] at he1; subst he1; clear hp) | (go_at_call 93; refine (kind_pair _ _ _).mono ?_; rintro e w2 ⟨rfl, hb2⟩))
      go_ret
      exact ⟨rfl, hb1.trans (hb2.mono hb1.size)⟩
    | thunk x =>
      have mk := m_kind_thunk x.val
      have HR := hid hr
      clear hr
      go_enter Try.func10, Try.ntmps10
      go_wp2_with (first | (go_at_call 26; refine (HC.out _).mono ?_; rintro e w1 hp; rw [HR.out] at hp; obtain ⟨he1, hb1⟩ := hp.some; simp only [Ty.val] at he1; subst he1; clear hp) | (go_at_call 97; refine (kind_thunk _ _).mono ?_; rintro e w2 ⟨rfl, hb2⟩))
      go_ret
      exact ⟨rfl, hb1.trans (hb2.mono hb1.size)⟩
    | ret x =>
      have mk := m_kind_ret x.val
      have HR := hid hr
      clear hr
      go_enter Try.func10, Try.ntmps10
      go_wp2_with (first | (go_at_call 26; refine (HC.out _).mono ?_; rintro e w1 hp; rw [HR.out] at hp; obtain ⟨he1, hb1⟩ := hp.some; simp only [Ty.val] at he1; subst he1; clear hp) | (go_at_call 101; refine (kind_ret _ _).mono ?_; rintro e w2 ⟨rfl, hb2⟩))
      go_ret
      exact ⟨rfl, hb1.trans (hb2.mono hb1.size)⟩
    | fn x y =>
      have mk := m_kind_fn x.val y.val
      have HR := hid hr
      clear hr
      go_enter Try.func10, Try.ntmps10
      go_wp2_with (first | (go_at_call 26; refine (HC.out _).mono ?_; rintro e w1 hp; rw [HR.out] at hp; obtain ⟨he1, hb1⟩ := hp.some; simp only [Ty.val] at he1; subst he1; clear hp) | (go_at_call 106; refine (kind_fn _ _ _).mono ?_; rintro e w2 ⟨rfl, hb2⟩))
      go_ret
      exact ⟨rfl, hb1.trans (hb2.mono hb1.size)⟩
    | choice x y =>
      have mk := m_kind_choice x.val y.val
      have HR := hid hr
      clear hr
      go_enter Try.func10, Try.ntmps10
      go_wp2_with (first | (go_at_call 26; refine (HC.out _).mono ?_; rintro e w1 hp; rw [HR.out] at hp; obtain ⟨he1, hb1⟩ := hp.some; simp only [Ty.val] at he1; subst he1; clear hp) | (go_at_call 111; refine (kind_choice _ _ _).mono ?_; rintro e w2 ⟨rfl, hb2⟩))
      go_ret
      exact ⟨rfl, hb1.trans (hb2.mono hb1.size)⟩

set_option maxHeartbeats 1000000 in
theorem specTypeKind_any (s : ByteArray) (hs : s.size ≤ 2000000) (w : World) : Calls Try.prog 9 #[.string s] w fun e w' => e = .returned (.string (kindOf (readTy s))) ∧ Below w.heap.size w w' := by
  have HC := hid (fun W => l1Type_any s hs W)
  cases ht : typeTree s with
  | none =>
    have HR := hid (typeTree_none ht)
    have HT := hid ht
    clear ht
    go_enter Try.func9, Try.ntmps9
    go_wp2_with (go_at_call 24; refine (HC.out _).mono ?_; rintro e w1 hp; rw [HT.out] at hp; obtain ⟨pa, pp, pl, pc, rfl, hpl, hb1⟩ := hp.none; clear hp)
    go_ret
    exact ⟨ret_str (by rw [HR.out]; rfl), hb1.alloc hb1.size _⟩
  | some t =>
    obtain ⟨hpt, hsz, ty, hty, hrt, hk⟩ := typeTree_some ht
    have hwt := parse_wt hpt
    have HR := hid hrt
    have HK := hid hk
    have HT := hid ht
    clear ht hpt hty hrt hk
    go_enter Try.func9, Try.ntmps9
    go_wp2_with (first | (go_at_call 24; refine (HC.out _).mono ?_; rintro e w1 hp; rw [HT.out] at hp; obtain ⟨pa, pp, pl, pc, rfl, hb1, htr⟩ := hp.some; clear hp; have HD := hid (fun W hk hs => l1Kind_any htr hwt W hk hs); clear htr) | (go_at_call 25; refine (HD.out _ ((Kept.refl _).alloc (Nat.le_refl _) _) (by simp)).mono ?_; rintro e w2 ⟨rfl, hb2⟩))
    go_ret
    have s1 := hb1.size
    exact ⟨ret_str (by rw [HR.out, HK.out]; rfl), hb1.trans (((Below.refl _ _).alloc s1 _).trans (hb2.mono (by simp; omega)))⟩

set_option maxHeartbeats 1000000 in
theorem lawTypeKind (s : ByteArray) (hs : s.size ≤ 9223372036854775807) (w : World) : Calls Try.prog 3 #[.string s] w fun e w' => e = .returned (.bool true) ∧ Below w.heap.size w w' := by
  by_cases h : s.size ≤ 1048576
  · have HA := hid (fun W => specTypeKind_any s (by omega) W)
    have HB := hid (fun W => implTypeKind_any s (by omega) W)
    have hq : (!(kindOf (readTy s)).toList == (kindOf (readTy s)).toList) = false := by simp
    go_enter Try.func3, Try.ntmps3
    go_wp2_with (first | (go_at_call 9; refine (HA.out _).mono ?_; rintro e w1 ⟨rfl, hb1⟩) | (go_at_call 10; refine (HB.out _).mono ?_; rintro e w2 ⟨rfl, hb2⟩))
    go_ret
    exact ⟨rfl, hb1.trans (hb2.mono hb1.size)⟩
  · have h2 : 1048576 < s.size := by omega
    clear h
    go_enter Try.func3, Try.ntmps3
    go_wp2
    go_ret
    exact ⟨rfl, Below.refl _ _⟩
end Go.Proofs.Ytamdinbjfbbicab
