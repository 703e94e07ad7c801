/- What a text that is a type tells of its tree. -/
import Derived.Test.YtfogjomebcponaaDoorSpecT
import Derived.Test.YtfogjomebcponaaDoorKindTy
namespace Go.Proofs.YtfogjomebcponaaDoor
open Go.RowKit

theorem typeTree_some {s : ByteArray} {t : Tree} (h : typeTree s = some t) : parse s = some t ∧ t.size ≤ 12 ∧ ∃ ty, t.ty = some ty ∧ readTy s = some ty ∧ t.kind = ty.kindS := by
  unfold typeTree at h
  cases hp : parse s with
  | none => rw [hp] at h; simp at h
  | some u =>
    rw [hp] at h; simp only at h
    split at h
    · rename_i hc
      simp at h; subst h
      have hk := kind_ty u
      cases hty : u.ty with
      | none => rw [hk, hty, kindOf, empty_toList] at hc; simp at hc
      | some ty => exact ⟨rfl, hc.2, ty, rfl, by rw [readTy, hp]; simp [hc.2, hty], by rw [hk, hty]; rfl⟩
    · simp at h
theorem typeTree_none {s : ByteArray} (h : typeTree s = none) : readTy s = none := by
  unfold typeTree at h
  unfold readTy
  cases hp : parse s with
  | none => rfl
  | some u =>
    rw [hp] at h; simp only at h ⊢
    by_cases h12 : u.size ≤ 12
    · rw [if_pos h12]
      cases hty : u.ty with
      | none => rfl
      | some ty =>
        exfalso
        have hk := kind_ty u
        rw [hty] at hk
        have := kindS_some ty
        rw [show ty.kindS = u.kind from hk.symm] at this
        rw [if_pos ⟨this, h12⟩] at h
        simp at h
    · rw [if_neg h12]
end Go.Proofs.YtfogjomebcponaaDoor
