/- The parts of a type; texts that are read are small. -/
import Derived.Test.YtfogjomebcponaaDoorWrite
namespace Go.Proofs.YtfogjomebcponaaDoor
open Go.RowKit

/-- The parts of a type. -/
def Ty.kids : Ty → List Ty
  | .bit => []
  | .pair a b => [a, b]
  | .thunk c => [c]
  | .ret a => [a]
  | .fn a c => [a, c]
  | .choice c d => [c, d]
/-- The parts of what a text is. -/
def kidsO : Option Ty → List Ty
  | some ty => ty.kids
  | none => []
theorem readTy_small {s : ByteArray} {ty : Ty} (h : readTy s = some ty) : ty.write.length ≤ 12000 := by
  unfold readTy at h
  cases hp : parse s with
  | none => rw [hp] at h; simp at h
  | some t =>
    rw [hp] at h; simp only at h
    split at h
    · rw [← ty_write t ty h]; exact parse_small hp
    · simp at h

theorem tyParts_kids {L : List UInt8} {ks : List Ty} {ty : Ty} (h : tyParts L ks = some ty) : ty.kids = ks := by
  unfold tyParts at h
  split at h
  · split at h
    · simp at h; subst h; rfl
    · split at h
      · simp at h; subst h; rfl
      · split at h
        · simp at h; subst h; rfl
        · simp at h
  · split at h
    · simp at h; subst h; rfl
    · split at h
      · simp at h; subst h; rfl
      · simp at h
  · simp at h
theorem tys_get : ∀ (l : List Tree) (ks : List Ty), Tree.tys l = some ks → ∀ (i : Nat) (p : Tree), l[i]? = some p → ∃ t, ks[i]? = some t ∧ p.ty = some t := by
  intro l; induction l with
  | nil => intro ks _ i p h; simp at h
  | cons q l ih =>
    intro ks h i p hp
    rw [Tree.tys] at h
    cases hq : q.ty with
    | none => rw [hq] at h; simp at h
    | some t =>
      rw [hq] at h; simp only at h
      cases hr : Tree.tys l with
      | none => rw [hr] at h; simp at h
      | some ts =>
        rw [hr] at h; simp at h; subst h
        cases i with
        | zero => simp at hp; subst hp; exact ⟨t, rfl, hq⟩
        | succ i => simpa using ih ts hr i p (by simpa using hp)
end Go.Proofs.YtfogjomebcponaaDoor
