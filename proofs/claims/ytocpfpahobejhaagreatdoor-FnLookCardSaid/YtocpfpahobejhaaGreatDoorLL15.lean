/- Merged: TyR, KindS, KindI. -/
import Derived.Test.YtocpfpahobejhaaGreatDoorLL13
import Derived.Test.YtocpfpahobejhaaGreatDoorLLSSpecT
namespace Go.Proofs.YtocpfpahobejhaaGreatDoor
open Go.RowKit

set_option maxRecDepth 100000 in
set_option maxHeartbeats 2000000 in
theorem readType_any (s : ByteArray) (hs : s.size ≤ 400000000) (w : World) : Calls Tryz.prog 71 #[.string s] w (TyPost (readTy s) w) := by
  have HC := hid (fun W => readPhrase_any s hs W)
  cases hp : parse s with
  | none =>
    have HP := hid hp
    have HR := hid (show readTy s = none by rw [readTy, hp])
    clear hp
    go_enter Tryz.func71, Tryz.ntmps71
    go_wp2_with (go_at_call 98; refine (HC.out _).mono ?_; rintro e w1 hp; rw [HP.out] at hp; obtain ⟨pa, pp, pl, pc, rfl, hpl, hb1⟩ := hp.none; clear hp)
    go_ret2
    rw [HR.out]
    exact ⟨rfl, hb1.alloc hb1.size _⟩
  | some t =>
    have hwt := parse_wt hp
    have hok := hid (parse_ok hp)
    have HP := hid hp
    have HR := hid (show readTy s = tyLim t by rw [readTy, hp]; rfl)
    clear hp
    cases hty : tyLim t with
    | none =>
      have HT := hid hty
      clear hty
      go_enter Tryz.func71, Tryz.ntmps71
      go_wp2_with (first | (go_at_call 98; refine (HC.out _).mono ?_; rintro e w1 hp; rw [HP.out] at hp; obtain ⟨pa, pp, pl, pc, rfl, hb1, ht⟩ := hp.some; clear hp; have HD := hid (fun W hk hs => limitedType_any ht hwt hok.out W hk hs); clear ht) | (go_at_call 99; refine (HD.out _ ((Kept.refl _).alloc (Nat.le_refl _) _) (by simp)).mono ?_; rintro e w3 hp; rw [HT.out] at hp; obtain ⟨rfl, hb3⟩ := hp.none; clear hp))
      go_ret2
      rw [HR.out, HT.out]
      have s1 := hb1.size
      exact ⟨rfl, hb1.trans (((Below.refl _ _).alloc (by omega) _).trans (hb3.mono (by simp; omega)))⟩
    | some tp =>
      have HT := hid hty
      clear hty
      go_enter Tryz.func71, Tryz.ntmps71
      go_wp2_with (first | (go_at_call 98; refine (HC.out _).mono ?_; rintro e w1 hp; rw [HP.out] at hp; obtain ⟨pa, pp, pl, pc, rfl, hb1, ht⟩ := hp.some; clear hp; have HD := hid (fun W hk hs => limitedType_any ht hwt hok.out W hk hs); clear ht) | (go_at_call 99; refine (HD.out _ ((Kept.refl _).alloc (Nat.le_refl _) _) (by simp)).mono ?_; rintro e w3 hp; rw [HT.out] at hp; obtain ⟨rfl, hb3⟩ := hp.some; clear hp))
      go_ret2
      rw [HR.out, HT.out]
      have s1 := hb1.size
      exact ⟨rfl, hb1.trans (((Below.refl _ _).alloc (by omega) _).trans (hb3.mono (by simp; omega)))⟩
theorem typeTree_some {s : ByteArray} {t : Tree} (h : typeTree s = some t) : parse s = some t ∧ t.size ≤ 12 ∧ ∃ ty, t.ty = some ty ∧ readTy s = some ty ∧ t.kind = ty.kindS := by
  unfold typeTree at h
  cases hp : parse s with
  | none => rw [hp] at h; simp at h
  | some u =>
    rw [hp] at h; simp only at h
    split at h
    · rename_i hc
      simp at h; subst h
      have hk := kind_ty u
      cases hty : u.ty with
      | none => rw [hk, hty, kindOf, empty_toList] at hc; simp at hc
      | some ty => exact ⟨rfl, hc.2, ty, rfl, by rw [readTy, hp]; simp [hc.2, hty], by rw [hk, hty]; rfl⟩
    · simp at h
theorem typeTree_none {s : ByteArray} (h : typeTree s = none) : readTy s = none := by
  unfold typeTree at h
  unfold readTy
  cases hp : parse s with
  | none => rfl
  | some u =>
    rw [hp] at h; simp only at h ⊢
    by_cases h12 : u.size ≤ 12
    · rw [if_pos h12]
      cases hty : u.ty with
      | none => rfl
      | some ty =>
        exfalso
        have hk := kind_ty u
        rw [hty] at hk
        have := kindS_some ty
        rw [show ty.kindS = u.kind from hk.symm] at this
        rw [if_pos ⟨this, h12⟩] at h
        simp at h
    · rw [if_neg h12]
end Go.Proofs.YtocpfpahobejhaaGreatDoor

namespace Go.Proofs.YtocpfpahobejhaaGreatDoor
open Go.RowKit

set_option maxHeartbeats 1000000 in
theorem specTypeKind_any (s : ByteArray) (hs : s.size ≤ 400000000) (w : World) : Calls Tryz.prog 96 #[.string s] w fun e w' => e = .returned (.string (kindOf (readTy s))) ∧ Below w.heap.size w w' := by
  have HC := hid (fun W => l1Type_any s hs W)
  cases ht : typeTree s with
  | none =>
    have HR := hid (typeTree_none ht)
    have HT := hid ht
    clear ht
    go_enter Tryz.func96, Tryz.ntmps96
    go_wp2_with (go_at_call 124; refine (HC.out _).mono ?_; rintro e w1 hp; rw [HT.out] at hp; obtain ⟨pa, pp, pl, pc, rfl, hpl, hb1⟩ := hp.none; clear hp)
    go_ret
    exact ⟨ret_str (by rw [HR.out]; rfl), hb1.alloc hb1.size _⟩
  | some t =>
    obtain ⟨hpt, hsz, ty, hty, hrt, hk⟩ := typeTree_some ht
    have hwt := parse_wt hpt
    have HR := hid hrt
    have HK := hid hk
    have HT := hid ht
    clear ht hpt hty hrt hk
    go_enter Tryz.func96, Tryz.ntmps96
    go_wp2_with (first | (go_at_call 124; refine (HC.out _).mono ?_; rintro e w1 hp; rw [HT.out] at hp; obtain ⟨pa, pp, pl, pc, rfl, hb1, htr⟩ := hp.some; clear hp; have HD := hid (fun W hk hs => l1Kind_any htr hwt W hk hs); clear htr) | (go_at_call 108; refine (HD.out _ ((Kept.refl _).alloc (Nat.le_refl _) _) (by simp)).mono ?_; rintro e w2 ⟨rfl, hb2⟩))
    go_ret
    have s1 := hb1.size
    exact ⟨ret_str (by rw [HR.out, HK.out]; rfl), hb1.trans (((Below.refl _ _).alloc s1 _).trans (hb2.mono (by simp; omega)))⟩
end Go.Proofs.YtocpfpahobejhaaGreatDoor

namespace Go.Proofs.YtocpfpahobejhaaGreatDoor
open Go.RowKit

set_option maxHeartbeats 1000000 in
theorem implTypeKind_any (s : ByteArray) (hs : s.size ≤ 400000000) (w : World) : Calls Tryz.prog 39 #[.string s] w fun e w' => e = .returned (.string (kindOf (readTy s))) ∧ Below w.heap.size w w' := by
  have HC := hid (fun W => readType_any s hs W)
  cases hr : readTy s with
  | none =>
    have HR := hid hr
    clear hr
    go_enter Tryz.func39, Tryz.ntmps39
    go_wp2_with (go_at_call 71; refine (HC.out _).mono ?_; rintro e w1 hp; rw [HR.out] at hp; obtain ⟨rfl, hb1⟩ := hp.none; clear hp)
    go_ret
    exact ⟨rfl, hb1⟩
  | some ty =>
    cases ty with
    | bit =>
      have mk := m_kind_bit 
      have HR := hid hr
      clear hr
      go_enter Tryz.func39, Tryz.ntmps39
      go_wp2_with (first | (go_at_call 71; refine (HC.out _).mono ?_; rintro e w1 hp; rw [HR.out] at hp; obtain ⟨he1, hb1⟩ := hp.some; simp only [Ty.val] at he1; subst he1; clear hp) | (go_at_call 185; refine (kind_bit _).mono ?_; rintro e w2 ⟨rfl, hb2⟩))
      go_ret
      exact ⟨rfl, hb1.trans (hb2.mono hb1.size)⟩
    | pair x y =>
      have mk := m_kind_pair x.val y.val
      have HR := hid hr
      clear hr
      go_enter Tryz.func39, Tryz.ntmps39
      go_wp2_with (first | (go_at_call 71; refine (HC.out _).mono ?_; rintro e w1 hp; rw [HR.out] at hp; obtain ⟨he1, hb1⟩ := hp.some; simp only [Ty.val] at he1; subst he1; clear hp) | (go_at_call 193; refine (kind_pair _ _ _).mono ?_; rintro e w2 ⟨rfl, hb2⟩))
      go_ret
      exact ⟨rfl, hb1.trans (hb2.mono hb1.size)⟩
    | thunk x =>
      have mk := m_kind_thunk x.val
      have HR := hid hr
      clear hr
      go_enter Tryz.func39, Tryz.ntmps39
      go_wp2_with (first | (go_at_call 71; refine (HC.out _).mono ?_; rintro e w1 hp; rw [HR.out] at hp; obtain ⟨he1, hb1⟩ := hp.some; simp only [Ty.val] at he1; subst he1; clear hp) | (go_at_call 197; refine (kind_thunk _ _).mono ?_; rintro e w2 ⟨rfl, hb2⟩))
      go_ret
      exact ⟨rfl, hb1.trans (hb2.mono hb1.size)⟩
    | ret x =>
      have mk := m_kind_ret x.val
      have HR := hid hr
      clear hr
      go_enter Tryz.func39, Tryz.ntmps39
      go_wp2_with (first | (go_at_call 71; refine (HC.out _).mono ?_; rintro e w1 hp; rw [HR.out] at hp; obtain ⟨he1, hb1⟩ := hp.some; simp only [Ty.val] at he1; subst he1; clear hp) | (go_at_call 189; refine (kind_ret _ _).mono ?_; rintro e w2 ⟨rfl, hb2⟩))
      go_ret
      exact ⟨rfl, hb1.trans (hb2.mono hb1.size)⟩
    | fn x y =>
      have mk := m_kind_fn x.val y.val
      have HR := hid hr
      clear hr
      go_enter Tryz.func39, Tryz.ntmps39
      go_wp2_with (first | (go_at_call 71; refine (HC.out _).mono ?_; rintro e w1 hp; rw [HR.out] at hp; obtain ⟨he1, hb1⟩ := hp.some; simp only [Ty.val] at he1; subst he1; clear hp) | (go_at_call 201; refine (kind_fn _ _ _).mono ?_; rintro e w2 ⟨rfl, hb2⟩))
      go_ret
      exact ⟨rfl, hb1.trans (hb2.mono hb1.size)⟩
    | choice x y =>
      have mk := m_kind_choice x.val y.val
      have HR := hid hr
      clear hr
      go_enter Tryz.func39, Tryz.ntmps39
      go_wp2_with (first | (go_at_call 71; refine (HC.out _).mono ?_; rintro e w1 hp; rw [HR.out] at hp; obtain ⟨he1, hb1⟩ := hp.some; simp only [Ty.val] at he1; subst he1; clear hp) | (go_at_call 205; refine (kind_choice _ _ _).mono ?_; rintro e w2 ⟨rfl, hb2⟩))
      go_ret
      exact ⟨rfl, hb1.trans (hb2.mono hb1.size)⟩
end Go.Proofs.YtocpfpahobejhaaGreatDoor
