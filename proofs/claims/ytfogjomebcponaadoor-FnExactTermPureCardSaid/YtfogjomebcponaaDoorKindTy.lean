/- The model's kind of a tree is that of the type. -/
import Derived.Test.YtfogjomebcponaaDoorTyC
namespace Go.Proofs.YtfogjomebcponaaDoor
open Go.RowKit

theorem l1IfP_bad {ks b : List ByteArray} {kind x : ByteArray} (hx : x ∈ ks) (h0 : x.toList = []) (hb : ∀ y ∈ b, y.toList ≠ []) : l1IfP ks b kind = ByteArray.empty := by
  rw [l1IfP, if_neg]
  intro e
  have : ([] : List UInt8) ∈ b.map (·.toList) := by rw [← e]; exact List.mem_map.2 ⟨x, hx, h0⟩
  obtain ⟨y, hy, hy0⟩ := List.mem_map.1 this
  exact hb y hy hy0
theorem strV_ne : strV.toList ≠ [] := by rw [strV_toList]; decide
theorem strC_ne : strC.toList ≠ [] := by rw [strC_toList]; decide
theorem nodeKind_bad {hd : ByteArray} {ks : List ByteArray} {x : ByteArray} (hx : x ∈ ks) (h0 : x.toList = []) : nodeKind hd ks = ByteArray.empty := by
  have h : ∀ (b : List ByteArray) (kind : ByteArray), (∀ y ∈ b, y = strV ∨ y = strC) → l1IfP ks b kind = ByteArray.empty := fun b kind hb => l1IfP_bad hx h0 (fun y hy => by rcases hb y hy with rfl | rfl; exact strV_ne; exact strC_ne)
  unfold nodeKind
  rw [h [strV, strV] _ (by simp), h [strC] _ (by simp), h [strV] _ (by simp), h [strV, strC] _ (by simp), h [strC, strC] _ (by simp)]
  repeat (split; rfl)
  rfl
theorem l1IfP_kinds (ks : List Ty) (b : List Ty) (kind : ByteArray) : l1IfP (ks.map Ty.kindS) (b.map Ty.kindS) kind = if ks.map Ty.isVal = b.map Ty.isVal then kind else ByteArray.empty := by
  have e : ∀ l : List Ty, (l.map Ty.kindS).map (·.toList) = l.map Ty.kindL := fun l => by rw [List.map_map]; exact List.map_congr_left fun t _ => kindS_toList t
  have inj : ∀ l l' : List Ty, l.map Ty.kindL = l'.map Ty.kindL ↔ l.map Ty.isVal = l'.map Ty.isVal := by
    intro l; induction l with
    | nil => intro l'; cases l' <;> simp
    | cons a l ih =>
      intro l'; cases l' with
      | nil => simp
      | cons c l' =>
        simp only [List.map_cons, List.cons.injEq, ih l']
        have : a.kindL = c.kindL ↔ a.isVal = c.isVal := by
          unfold Ty.kindL; cases a.isVal <;> cases c.isVal <;> simp [lV, lC]
        rw [this]
  rw [l1IfP, e, e]
  by_cases h : ks.map Ty.isVal = b.map Ty.isVal
  · rw [if_pos ((inj _ _).2 h), if_pos h]
  · rw [if_neg (fun x => h ((inj _ _).1 x)), if_neg h]
/-- The word for a kind of type, or nothing. -/
def kindOf : Option Ty → ByteArray
  | some t => t.kindS
  | none => ByteArray.empty
theorem nodeKind_kinds (hd : ByteArray) (ks : List Ty) : nodeKind hd (ks.map Ty.kindS) = kindOf (tyParts hd.toList ks) := by
  have e1 : [strV, strV] = [Ty.bit, Ty.bit].map Ty.kindS := rfl
  have e2 : [strC] = [Ty.ret Ty.bit].map Ty.kindS := rfl
  have e3 : [strV] = [Ty.bit].map Ty.kindS := rfl
  have e4 : [strV, strC] = [Ty.bit, Ty.ret Ty.bit].map Ty.kindS := rfl
  have e5 : [strC, strC] = [Ty.ret Ty.bit, Ty.ret Ty.bit].map Ty.kindS := rfl
  unfold nodeKind
  rw [e1, e4, e5, e2, e3, l1IfP_kinds, l1IfP_kinds, l1IfP_kinds, l1IfP_kinds, l1IfP_kinds]
  clear e1 e2 e3 e4 e5
  generalize hd.toList = L
  have i1 : Ty.bit.isVal = true := rfl
  have i2 : ∀ a, (Ty.ret a).isVal = false := fun _ => rfl
  have g1 : ∀ a b, (Ty.pair a b).kindS = strV := fun _ _ => rfl
  have g2 : ∀ a, (Ty.thunk a).kindS = strV := fun _ => rfl
  have g3 : ∀ a, (Ty.ret a).kindS = strC := fun _ => rfl
  have g4 : ∀ a b, (Ty.fn a b).kindS = strC := fun _ _ => rfl
  have g5 : ∀ a b, (Ty.choice a b).kindS = strC := fun _ _ => rfl
  match ks with
  | [] => simp [tyParts, kindOf]
  | [a] =>
    by_cases h1 : L = [42]
    · subst h1; cases ha : a.isVal <;> simp_all [tyParts, kindOf]
    by_cases h2 : L = [117]
    · subst h2; cases ha : a.isVal <;> simp_all [tyParts, kindOf]
    by_cases h3 : L = [102]
    · subst h3; cases ha : a.isVal <;> simp_all [tyParts, kindOf]
    by_cases h4 : L = [62]
    · subst h4; cases ha : a.isVal <;> simp_all [tyParts, kindOf]
    by_cases h5 : L = [38]
    · subst h5; cases ha : a.isVal <;> simp_all [tyParts, kindOf]
    simp [tyParts, kindOf, h1, h2, h3, h4, h5]
  | [a, b] =>
    by_cases h1 : L = [42]
    · subst h1; cases ha : a.isVal <;> cases hb : b.isVal <;> simp_all [tyParts, kindOf]
    by_cases h2 : L = [117]
    · subst h2; cases ha : a.isVal <;> cases hb : b.isVal <;> simp_all [tyParts, kindOf]
    by_cases h3 : L = [102]
    · subst h3; cases ha : a.isVal <;> cases hb : b.isVal <;> simp_all [tyParts, kindOf]
    by_cases h4 : L = [62]
    · subst h4; cases ha : a.isVal <;> cases hb : b.isVal <;> simp_all [tyParts, kindOf]
    by_cases h5 : L = [38]
    · subst h5; cases ha : a.isVal <;> cases hb : b.isVal <;> simp_all [tyParts, kindOf]
    simp [tyParts, kindOf, h1, h2, h3, h4, h5]
  | a :: b :: c :: r => simp [tyParts, kindOf]

mutual
theorem kind_ty : ∀ t : Tree, t.kind = kindOf t.ty
  | .atom s => by
    rw [Tree.kind, Tree.ty]
    by_cases h : s.toList = [98]
    · rw [if_pos h, if_pos h]; rfl
    · rw [if_neg h, if_neg h]; rfl
  | .node [] => by rw [Tree.kind, Tree.ty]; exact nodeKind_empty _
  | .node (q :: qs) => by
    rw [Tree.kind, Tree.ty, Tree.kinds]
    have hh : (Tree.node (q :: qs)).headAtom = q.text := rfl
    rw [hh, List.drop_one, List.tail_cons]
    rcases kinds_tys qs with ⟨ks, h1, h2⟩ | ⟨h1, x, hx, h0⟩
    · rw [h1, h2]; exact nodeKind_kinds _ _
    · rw [h1]; exact nodeKind_bad hx h0
theorem kinds_tys : ∀ ps : List Tree, (∃ ks, Tree.tys ps = some ks ∧ Tree.kinds ps = ks.map Ty.kindS) ∨ (Tree.tys ps = none ∧ ∃ x ∈ Tree.kinds ps, x.toList = [])
  | [] => Or.inl ⟨[], rfl, rfl⟩
  | p :: ps => by
    have hp := kind_ty p
    have hps := kinds_tys ps
    cases ht : p.ty with
    | none =>
      refine Or.inr ⟨by rw [Tree.tys, ht], p.kind, by simp [Tree.kinds], ?_⟩
      rw [hp, ht]; exact empty_toList
    | some t =>
      rcases hps with ⟨ks, h1, h2⟩ | ⟨h1, x, hx, h0⟩
      · refine Or.inl ⟨t :: ks, by rw [Tree.tys, ht, h1], ?_⟩
        rw [Tree.kinds, h2, hp, ht]; rfl
      · refine Or.inr ⟨by rw [Tree.tys, ht, h1], x, by simp [Tree.kinds, hx], h0⟩
end
theorem kindS_some (t : Ty) : t.kindS.toList.isEmpty = false := by
  unfold Ty.kindS; split
  · rw [strV_toList]; rfl
  · rw [strC_toList]; rfl
end Go.Proofs.YtfogjomebcponaaDoor
