/- A text that reads as a type is the type's own text. -/
import Derived.Test.YtfogjomebcponaaDoorWriteP
import Derived.Test.YtfogjomebcponaaDoorKindTy
namespace Go.Proofs.YtfogjomebcponaaDoor
open Go.RowKit

/-- A type as a text. -/
def Ty.write : Ty → List UInt8
  | .bit => [98]
  | .pair a b => 40 :: 42 :: 32 :: (a.write ++ 32 :: (b.write ++ [41]))
  | .thunk c => 40 :: 117 :: 32 :: (c.write ++ [41])
  | .ret a => 40 :: 102 :: 32 :: (a.write ++ [41])
  | .fn a c => 40 :: 62 :: 32 :: (a.write ++ 32 :: (c.write ++ [41]))
  | .choice c d => 40 :: 38 :: 32 :: (c.write ++ 32 :: (d.write ++ [41]))
def Ty.writeL : List Ty → List UInt8
  | [] => []
  | t :: ts => 32 :: (t.write ++ Ty.writeL ts)
theorem tyParts_write {L : List UInt8} {ks : List Ty} {ty : Ty} (h : tyParts L ks = some ty) : ty.write = 40 :: (L ++ (Ty.writeL ks ++ [41])) := by
  unfold tyParts at h
  split at h
  · split at h
    · rename_i c; simp at h; subst h; rw [c.1]; simp [Ty.write, Ty.writeL]
    · split at h
      · rename_i c; simp at h; subst h; rw [c.1]; simp [Ty.write, Ty.writeL]
      · split at h
        · rename_i c; simp at h; subst h; rw [c.1]; simp [Ty.write, Ty.writeL]
        · simp at h
  · split at h
    · rename_i c; simp at h; subst h; rw [c.1]; simp [Ty.write, Ty.writeL]
    · split at h
      · rename_i c; simp at h; subst h; rw [c.1]; simp [Ty.write, Ty.writeL]
      · simp at h
  · simp at h
theorem tyParts_head {L : List UInt8} {ks : List Ty} {ty : Ty} (h : tyParts L ks = some ty) : L = [ty.headB] := by
  unfold tyParts at h
  split at h
  · split at h
    · rename_i c; simp at h; subst h; exact c.1
    · split at h
      · rename_i c; simp at h; subst h; exact c.1
      · split at h
        · rename_i c; simp at h; subst h; exact c.1
        · simp at h
  · split at h
    · rename_i c; simp at h; subst h; exact c.1
    · split at h
      · rename_i c; simp at h; subst h; exact c.1
      · simp at h
  · simp at h
mutual
theorem ty_write : ∀ (t : Tree) (ty : Ty), t.ty = some ty → t.write = ty.write
  | .atom s, ty, h => by
    rw [Tree.ty] at h
    split at h
    · rename_i hs
      simp at h; subst h
      rw [Tree.write, ← Go.ByteArray.toList_eq, hs]; rfl
    · simp at h
  | .node [], ty, h => by simp [Tree.ty] at h
  | .node (q :: qs), ty, h => by
    rw [Tree.ty] at h
    cases hk : Tree.tys qs with
    | none => rw [hk] at h; simp at h
    | some ks =>
      rw [hk] at h; simp only at h
      rw [Tree.write, tyParts_write h, tys_write qs ks hk]
      have hh := tyParts_head h
      cases q with
      | atom x => simp only [Tree.text] at hh ⊢; rw [Tree.write, Go.ByteArray.toList_eq]
      | node ps => rw [Tree.text, empty_toList] at hh; simp at hh
theorem tys_write : ∀ (ps : List Tree) (ks : List Ty), Tree.tys ps = some ks → Tree.writes ps = Ty.writeL ks
  | [], ks, h => by simp [Tree.tys] at h; subst h; rfl
  | p :: ps, ks, h => by
    rw [Tree.tys] at h
    cases ht : p.ty with
    | none => rw [ht] at h; simp at h
    | some t =>
      rw [ht] at h; simp only at h
      cases hr : Tree.tys ps with
      | none => rw [hr] at h; simp at h
      | some ts =>
        rw [hr] at h; simp at h; subst h
        rw [Tree.writes, Ty.writeL, ty_write p t ht, tys_write ps ts hr]
end
/-- A text that is a type is the type's text. -/
theorem readTy_write {s : ByteArray} {ty : Ty} (h : readTy s = some ty) : s.toList = ty.write := by
  unfold readTy at h
  cases hp : parse s with
  | none => rw [hp] at h; simp at h
  | some t =>
    rw [hp] at h; simp only at h
    split at h
    · rw [Go.ByteArray.toList_eq, parse_write hp, ty_write t ty h]
    · simp at h
end Go.Proofs.YtfogjomebcponaaDoor
