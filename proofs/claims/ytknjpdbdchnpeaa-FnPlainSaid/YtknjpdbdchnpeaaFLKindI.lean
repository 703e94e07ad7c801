/- TypeKind of the program, walked. -/
import Derived.Test.YtknjpdbdchnpeaaFM4
namespace Go.Proofs.Ytknjpdbdchnpeaa
open Go.RowKit

set_option maxHeartbeats 1000000 in
theorem implTypeKind_any (s : ByteArray) (hs : s.size ≤ 400000000) (w : World) : Calls Try.prog 13 #[.string s] w fun e w' => e = .returned (.string (kindOf (readTy s))) ∧ Below w.heap.size w w' := by
  have HC := hid (fun W => readType_any s hs W)
  cases hr : readTy s with
  | none =>
    have HR := hid hr
    clear hr
    go_enter Try.func13, Try.ntmps13
    go_wp2_with (go_at_call 43; refine (HC.out _).mono ?_; rintro e w1 hp; rw [HR.out] at hp; obtain ⟨rfl, hb1⟩ := hp.none; clear hp)
    go_ret
    exact ⟨rfl, hb1⟩
  | some ty =>
    cases ty with
    | bit =>
      have mk := m_kind_bit 
      have HR := hid hr
      clear hr
      go_enter Try.func13, Try.ntmps13
      go_wp2_with (first | (go_at_call 43; refine (HC.out _).mono ?_; rintro e w1 hp; rw [HR.out] at hp; obtain ⟨he1, hb1⟩ := hp.some; simp only [Ty.val] at he1; subst he1; clear hp) | (go_at_call 130; refine (kind_bit _).mono ?_; rintro e w2 ⟨rfl, hb2⟩))
      go_ret
      exact ⟨rfl, hb1.trans (hb2.mono hb1.size)⟩
    | pair x y =>
      have mk := m_kind_pair x.val y.val
      have HR := hid hr
      clear hr
      go_enter Try.func13, Try.ntmps13
      go_wp2_with (first | (go_at_call 43; refine (HC.out _).mono ?_; rintro e w1 hp; rw [HR.out] at hp; obtain ⟨he1, hb1⟩ := hp.some; simp only [Ty.val] at he1; subst he1; clear hp) | (go_at_call 135; refine (kind_pair _ _ _).mono ?_; rintro e w2 ⟨rfl, hb2⟩))
      go_ret
      exact ⟨rfl, hb1.trans (hb2.mono hb1.size)⟩
    | thunk x =>
      have mk := m_kind_thunk x.val
      have HR := hid hr
      clear hr
      go_enter Try.func13, Try.ntmps13
      go_wp2_with (first | (go_at_call 43; refine (HC.out _).mono ?_; rintro e w1 hp; rw [HR.out] at hp; obtain ⟨he1, hb1⟩ := hp.some; simp only [Ty.val] at he1; subst he1; clear hp) | (go_at_call 139; refine (kind_thunk _ _).mono ?_; rintro e w2 ⟨rfl, hb2⟩))
      go_ret
      exact ⟨rfl, hb1.trans (hb2.mono hb1.size)⟩
    | ret x =>
      have mk := m_kind_ret x.val
      have HR := hid hr
      clear hr
      go_enter Try.func13, Try.ntmps13
      go_wp2_with (first | (go_at_call 43; refine (HC.out _).mono ?_; rintro e w1 hp; rw [HR.out] at hp; obtain ⟨he1, hb1⟩ := hp.some; simp only [Ty.val] at he1; subst he1; clear hp) | (go_at_call 143; refine (kind_ret _ _).mono ?_; rintro e w2 ⟨rfl, hb2⟩))
      go_ret
      exact ⟨rfl, hb1.trans (hb2.mono hb1.size)⟩
    | fn x y =>
      have mk := m_kind_fn x.val y.val
      have HR := hid hr
      clear hr
      go_enter Try.func13, Try.ntmps13
      go_wp2_with (first | (go_at_call 43; refine (HC.out _).mono ?_; rintro e w1 hp; rw [HR.out] at hp; obtain ⟨he1, hb1⟩ := hp.some; simp only [Ty.val] at he1; subst he1; clear hp) | (go_at_call 147; refine (kind_fn _ _ _).mono ?_; rintro e w2 ⟨rfl, hb2⟩))
      go_ret
      exact ⟨rfl, hb1.trans (hb2.mono hb1.size)⟩
    | choice x y =>
      have mk := m_kind_choice x.val y.val
      have HR := hid hr
      clear hr
      go_enter Try.func13, Try.ntmps13
      go_wp2_with (first | (go_at_call 43; refine (HC.out _).mono ?_; rintro e w1 hp; rw [HR.out] at hp; obtain ⟨he1, hb1⟩ := hp.some; simp only [Ty.val] at he1; subst he1; clear hp) | (go_at_call 151; refine (kind_choice _ _ _).mono ?_; rintro e w2 ⟨rfl, hb2⟩))
      go_ret
      exact ⟨rfl, hb1.trans (hb2.mono hb1.size)⟩
end Go.Proofs.Ytknjpdbdchnpeaa
