/- What ElementText answers, purely: the plain value types that are read are bits and pairs of them. -/
import Derived.Test.YtnmbkaemdblhpaaGreatDoorVtP
import Derived.Test.YtnmbkaemdblhpaaGreatDoorPlainI
namespace Go.Proofs.YtnmbkaemdblhpaaGreatDoor
open Go.RowKit

theorem tyParts_vp {L : List UInt8} {ks : List Ty} {ty : Ty} (h : tyParts L ks = some ty) (hk : ∀ k ∈ ks, k.vp = (k.plain && k.isVal)) : ty.vp = (ty.plain && ty.isVal) := by
  unfold tyParts at h
  split at h
  · rename_i a b
    have ha := hk a (by simp)
    have hb := hk b (by simp)
    split at h
    · rename_i c; simp at h; subst h; show (a.vp && b.vp) = (a.plain && b.plain && true); rw [ha, hb, c.2.1, c.2.2]; simp
    · split at h
      · rename_i c; simp at h; subst h; simp [Ty.vp, Ty.plain, Ty.isVal]
      · split at h
        · rename_i c; simp at h; subst h; simp [Ty.vp, Ty.plain, Ty.isVal]
        · simp at h
  · rename_i a
    split at h
    · rename_i c; simp at h; subst h; simp [Ty.vp, Ty.plain, Ty.isVal]
    · split at h
      · rename_i c; simp at h; subst h; simp [Ty.vp, Ty.plain, Ty.isVal]
      · simp at h
  · simp at h
mutual
theorem ty_vp : ∀ (t : Tree) (ty : Ty), t.ty = some ty → ty.vp = (ty.plain && ty.isVal)
  | .atom s, ty, h => by
    rw [Tree.ty] at h
    split at h
    · simp at h; subst h; rfl
    · simp at h
  | .node [], ty, h => by rw [Tree.ty] at h; simp at h
  | .node (q :: qs), ty, h => by
    rw [Tree.ty] at h
    cases hk : Tree.tys qs with
    | none => rw [hk] at h; simp at h
    | some ks => rw [hk] at h; exact tyParts_vp h (tys_vp qs ks hk)
theorem tys_vp : ∀ (ps : List Tree) (ks : List Ty), Tree.tys ps = some ks → ∀ k ∈ ks, k.vp = (k.plain && k.isVal)
  | [], ks, h => by rw [Tree.tys] at h; simp at h; subst h; simp
  | p :: ps, ks, h => by
    rw [Tree.tys] at h
    cases hp : p.ty with
    | none => rw [hp] at h; simp at h
    | some k =>
      cases hps : Tree.tys ps with
      | none => rw [hp, hps] at h; simp at h
      | some ks' =>
        rw [hp, hps] at h; simp at h; subst h
        intro x hx
        rcases List.mem_cons.1 hx with rfl | hx
        · exact ty_vp p _ hp
        · exact tys_vp ps ks' hps x hx
end
theorem readTy_vp {s : ByteArray} {ty : Ty} (h : readTy s = some ty) : ty.vp = (ty.plain && ty.isVal) := by
  unfold readTy at h
  split at h
  · rename_i t _
    split at h
    · exact ty_vp t ty h
    · simp at h
  · simp at h
/-- Whether there is such an element. -/
def elOk (o : Option Ty) (k : Int) : Bool := match o with
  | some ty => ty.plain && ty.isVal && decide (0 ≤ k ∧ k < cntV ty.cnt)
  | none => false
def elS (o : Option Ty) (k : Int) : ByteArray := match o with
  | some ty => if elOk o k = true then ty.vt k.toNat else ByteArray.empty
  | none => ByteArray.empty
def ElPost (o : Option Ty) (k : Int) (w : World) (e : Ending) (w' : World) : Prop := e = .returned (.tuple #[.string (elS o k), .bool (elOk o k)]) ∧ Below w.heap.size w w'
theorem elPost_none {k : Int} {w w' : World} (h : Below w.heap.size w w') : ElPost none k w (.returned (.tuple #[.string ByteArray.empty, .bool false])) w' := ⟨rfl, h⟩
theorem elPost_no {ty : Ty} {k : Int} (h : elOk (some ty) k = false) {w w' : World} (hb : Below w.heap.size w w') : ElPost (some ty) k w (.returned (.tuple #[.string ByteArray.empty, .bool false])) w' := by
  refine ⟨?_, hb⟩
  rw [elS, h]; rfl
theorem elPost_yes {ty : Ty} {k : Nat} (h : elOk (some ty) (k : Int) = true) {w w' : World} (hb : Below w.heap.size w w') : ElPost (some ty) (k : Int) w (.returned (.tuple #[.string (ty.vt k), .bool true])) w' := by
  refine ⟨?_, hb⟩
  rw [elS, h]; simp
end Go.Proofs.YtnmbkaemdblhpaaGreatDoor
