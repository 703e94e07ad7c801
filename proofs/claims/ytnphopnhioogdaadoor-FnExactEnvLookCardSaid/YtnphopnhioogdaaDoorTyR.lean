/- The program's reading of a type. -/
import Derived.Test.YtnphopnhioogdaaDoorKindTy
import Derived.Test.YtnphopnhioogdaaDoorSpecT
namespace Go.Proofs.YtnphopnhioogdaaDoor
open Go.RowKit

set_option maxRecDepth 100000 in
set_option maxHeartbeats 2000000 in
theorem readType_any (s : ByteArray) (hs : s.size ≤ 400000000) (w : World) : Calls Tryd.prog 57 #[.string s] w (TyPost (readTy s) w) := by
  have HC := hid (fun W => readPhrase_any s hs W)
  cases hp : parse s with
  | none =>
    have HP := hid hp
    have HR := hid (show readTy s = none by rw [readTy, hp])
    clear hp
    go_enter Tryd.func57, Tryd.ntmps57
    go_wp2_with (go_at_call 74; refine (HC.out _).mono ?_; rintro e w1 hp; rw [HP.out] at hp; obtain ⟨pa, pp, pl, pc, rfl, hpl, hb1⟩ := hp.none; clear hp)
    go_ret2
    rw [HR.out]
    exact ⟨rfl, hb1.alloc hb1.size _⟩
  | some t =>
    have hwt := parse_wt hp
    have hok := hid (parse_ok hp)
    have HP := hid hp
    have HR := hid (show readTy s = tyLim t by rw [readTy, hp]; rfl)
    clear hp
    cases hty : tyLim t with
    | none =>
      have HT := hid hty
      clear hty
      go_enter Tryd.func57, Tryd.ntmps57
      go_wp2_with (first | (go_at_call 74; refine (HC.out _).mono ?_; rintro e w1 hp; rw [HP.out] at hp; obtain ⟨pa, pp, pl, pc, rfl, hb1, ht⟩ := hp.some; clear hp; have HD := hid (fun W hk hs => limitedType_any ht hwt hok.out W hk hs); clear ht) | (go_at_call 75; refine (HD.out _ ((Kept.refl _).alloc (Nat.le_refl _) _) (by simp)).mono ?_; rintro e w3 hp; rw [HT.out] at hp; obtain ⟨rfl, hb3⟩ := hp.none; clear hp))
      go_ret2
      rw [HR.out, HT.out]
      have s1 := hb1.size
      exact ⟨rfl, hb1.trans (((Below.refl _ _).alloc (by omega) _).trans (hb3.mono (by simp; omega)))⟩
    | some tp =>
      have HT := hid hty
      clear hty
      go_enter Tryd.func57, Tryd.ntmps57
      go_wp2_with (first | (go_at_call 74; refine (HC.out _).mono ?_; rintro e w1 hp; rw [HP.out] at hp; obtain ⟨pa, pp, pl, pc, rfl, hb1, ht⟩ := hp.some; clear hp; have HD := hid (fun W hk hs => limitedType_any ht hwt hok.out W hk hs); clear ht) | (go_at_call 75; refine (HD.out _ ((Kept.refl _).alloc (Nat.le_refl _) _) (by simp)).mono ?_; rintro e w3 hp; rw [HT.out] at hp; obtain ⟨rfl, hb3⟩ := hp.some; clear hp))
      go_ret2
      rw [HR.out, HT.out]
      have s1 := hb1.size
      exact ⟨rfl, hb1.trans (((Below.refl _ _).alloc (by omega) _).trans (hb3.mono (by simp; omega)))⟩
theorem typeTree_some {s : ByteArray} {t : Tree} (h : typeTree s = some t) : parse s = some t ∧ t.size ≤ 12 ∧ ∃ ty, t.ty = some ty ∧ readTy s = some ty ∧ t.kind = ty.kindS := by
  unfold typeTree at h
  cases hp : parse s with
  | none => rw [hp] at h; simp at h
  | some u =>
    rw [hp] at h; simp only at h
    split at h
    · rename_i hc
      simp at h; subst h
      have hk := kind_ty u
      cases hty : u.ty with
      | none => rw [hk, hty, kindOf, empty_toList] at hc; simp at hc
      | some ty => exact ⟨rfl, hc.2, ty, rfl, by rw [readTy, hp]; simp [hc.2, hty], by rw [hk, hty]; rfl⟩
    · simp at h
theorem typeTree_none {s : ByteArray} (h : typeTree s = none) : readTy s = none := by
  unfold typeTree at h
  unfold readTy
  cases hp : parse s with
  | none => rfl
  | some u =>
    rw [hp] at h; simp only at h ⊢
    by_cases h12 : u.size ≤ 12
    · rw [if_pos h12]
      cases hty : u.ty with
      | none => rfl
      | some ty =>
        exfalso
        have hk := kind_ty u
        rw [hty] at hk
        have := kindS_some ty
        rw [show ty.kindS = u.kind from hk.symm] at this
        rw [if_pos ⟨this, h12⟩] at h
        simp at h
    · rw [if_neg h12]
end Go.Proofs.YtnphopnhioogdaaDoor
