/- A type as a tree, purely. -/
import Derived.Test.YtknjpdbdchnpeaaTermA
import Derived.Test.YtknjpdbdchnpeaaTyC
import Derived.Test.YtknjpdbdchnpeaaBack
namespace Go.Proofs.Ytknjpdbdchnpeaa
open Go.RowKit

/-- A type whose parts have their kinds. -/
def Ty.wf : Ty → Bool
  | .bit => true
  | .pair a b => a.wf && b.wf && a.isVal && b.isVal
  | .thunk c => c.wf && !c.isVal
  | .ret a => a.wf && a.isVal
  | .fn a c => a.wf && c.wf && a.isVal && !c.isVal
  | .choice c d => c.wf && d.wf && !c.isVal && !d.isVal
/-- A type as a tree. -/
def Ty.tree : Ty → Tree
  | .bit => .atom ⟨#[98]⟩
  | .pair a b => .node [.atom ⟨#[42]⟩, a.tree, b.tree]
  | .thunk c => .node [.atom ⟨#[117]⟩, c.tree]
  | .ret a => .node [.atom ⟨#[102]⟩, a.tree]
  | .fn a c => .node [.atom ⟨#[62]⟩, a.tree, c.tree]
  | .choice c d => .node [.atom ⟨#[38]⟩, c.tree, d.tree]
theorem tree_ty : ∀ t : Ty, t.wf = true → t.tree.ty = some t
  | .bit, _ => by rw [Ty.tree, Tree.ty, if_pos (by rw [Go.ByteArray.toList_eq])]
  | .pair a b, h => by
    simp only [Ty.wf, Bool.and_eq_true] at h
    have h1 := tree_ty a h.1.1.1
    have h2 := tree_ty b h.1.1.2
    simp [Ty.tree, Tree.ty, Tree.tys, h1, h2, Tree.text, Go.ByteArray.toList_eq, tyParts, h.1.2, h.2]
  | .thunk c, h => by
    simp only [Ty.wf, Bool.and_eq_true, Bool.not_eq_true'] at h
    have h1 := tree_ty c h.1
    simp [Ty.tree, Tree.ty, Tree.tys, h1, Tree.text, Go.ByteArray.toList_eq, tyParts, h.2]
  | .ret a, h => by
    simp only [Ty.wf, Bool.and_eq_true] at h
    have h1 := tree_ty a h.1
    simp [Ty.tree, Tree.ty, Tree.tys, h1, Tree.text, Go.ByteArray.toList_eq, tyParts, h.2]
  | .fn a c, h => by
    simp only [Ty.wf, Bool.and_eq_true, Bool.not_eq_true'] at h
    have h1 := tree_ty a h.1.1.1
    have h2 := tree_ty c h.1.1.2
    simp [Ty.tree, Tree.ty, Tree.tys, h1, h2, Tree.text, Go.ByteArray.toList_eq, tyParts, h.1.2, h.2]
  | .choice c d, h => by
    simp only [Ty.wf, Bool.and_eq_true, Bool.not_eq_true'] at h
    have h1 := tree_ty c h.1.1.1
    have h2 := tree_ty d h.1.1.2
    simp [Ty.tree, Tree.ty, Tree.tys, h1, h2, Tree.text, Go.ByteArray.toList_eq, tyParts, h.1.2, h.2]
theorem ty_tree_write : ∀ t : Ty, t.tree.write = t.write
  | .bit => rfl
  | .pair a b => by simp [Ty.tree, Tree.write, Tree.writes, Ty.write, ty_tree_write a, ty_tree_write b]
  | .thunk c => by simp [Ty.tree, Tree.write, Tree.writes, Ty.write, ty_tree_write c]
  | .ret a => by simp [Ty.tree, Tree.write, Tree.writes, Ty.write, ty_tree_write a]
  | .fn a c => by simp [Ty.tree, Tree.write, Tree.writes, Ty.write, ty_tree_write a, ty_tree_write c]
  | .choice c d => by simp [Ty.tree, Tree.write, Tree.writes, Ty.write, ty_tree_write c, ty_tree_write d]
theorem ty_tree_size : ∀ t : Ty, t.tree.size = t.atoms
  | .bit => rfl
  | .pair a b => by simp [Ty.tree, Tree.size, Tree.sizes, Ty.atoms, ty_tree_size a, ty_tree_size b]
  | .thunk c => by simp [Ty.tree, Tree.size, Tree.sizes, Ty.atoms, ty_tree_size c]
  | .ret a => by simp [Ty.tree, Tree.size, Tree.sizes, Ty.atoms, ty_tree_size a]
  | .fn a c => by simp [Ty.tree, Tree.size, Tree.sizes, Ty.atoms, ty_tree_size a, ty_tree_size c]
  | .choice c d => by simp [Ty.tree, Tree.size, Tree.sizes, Ty.atoms, ty_tree_size c, ty_tree_size d]
theorem ty_write_len : ∀ t : Ty, t.write.length ≤ 5 * t.atoms
  | .bit => by simp [Ty.write, Ty.atoms]
  | .pair a b => by have := ty_write_len a; have := ty_write_len b; simp [Ty.write, Ty.atoms]; omega
  | .thunk c => by have := ty_write_len c; simp [Ty.write, Ty.atoms]; omega
  | .ret a => by have := ty_write_len a; simp [Ty.write, Ty.atoms]; omega
  | .fn a c => by have := ty_write_len a; have := ty_write_len c; simp [Ty.write, Ty.atoms]; omega
  | .choice c d => by have := ty_write_len c; have := ty_write_len d; simp [Ty.write, Ty.atoms]; omega
theorem tyParts_wf {L : List UInt8} {ks : List Ty} {ty : Ty} (h : tyParts L ks = some ty) (hk : ∀ k ∈ ks, k.wf = true) : ty.wf = true := by
  unfold tyParts at h
  split at h
  · rename_i a b
    have ha := hk a (by simp)
    have hb := hk b (by simp)
    split at h
    · rename_i c; simp at h; subst h; simp [Ty.wf, ha, hb, c.2.1, c.2.2]
    · split at h
      · rename_i c; simp at h; subst h; simp [Ty.wf, ha, hb, c.2.1, c.2.2]
      · split at h
        · rename_i c; simp at h; subst h; simp [Ty.wf, ha, hb, c.2.1, c.2.2]
        · simp at h
  · rename_i a
    have ha := hk a (by simp)
    split at h
    · rename_i c; simp at h; subst h; simp [Ty.wf, ha, c.2]
    · split at h
      · rename_i c; simp at h; subst h; simp [Ty.wf, ha, c.2]
      · simp at h
  · simp at h
mutual
theorem ty_wf : ∀ (t : Tree) (ty : Ty), t.ty = some ty → ty.wf = true
  | .atom s, ty, h => by
    rw [Tree.ty] at h
    split at h
    · simp at h; subst h; rfl
    · simp at h
  | .node [], ty, h => by rw [Tree.ty] at h; simp at h
  | .node (q :: qs), ty, h => by
    rw [Tree.ty] at h
    cases hk : Tree.tys qs with
    | none => rw [hk] at h; simp at h
    | some ks => rw [hk] at h; exact tyParts_wf h (tys_wf qs ks hk)
theorem tys_wf : ∀ (ps : List Tree) (ks : List Ty), Tree.tys ps = some ks → ∀ k ∈ ks, k.wf = true
  | [], ks, h => by rw [Tree.tys] at h; simp at h; subst h; simp
  | p :: ps, ks, h => by
    rw [Tree.tys] at h
    cases hp : p.ty with
    | none => rw [hp] at h; simp at h
    | some t =>
      rw [hp] at h; simp only at h
      cases hr : Tree.tys ps with
      | none => rw [hr] at h; simp at h
      | some ts =>
        rw [hr] at h; simp at h; subst h
        intro k hk
        rcases List.mem_cons.1 hk with rfl | hk
        · exact ty_wf p _ hp
        · exact tys_wf ps ts hr k hk
end
theorem tree_wk : ∀ t : Ty, t.tree.wk
  | .bit => by rw [Ty.tree, Tree.wk]; exact ⟨by decide, by decide⟩
  | .pair a b => by rw [Ty.tree, Tree.wk, Tree.wks, Tree.wks, Tree.wks, Tree.wks, Tree.wk]; exact ⟨by simp, ⟨by decide, by decide⟩, tree_wk a, tree_wk b, trivial⟩
  | .thunk c => by rw [Ty.tree, Tree.wk, Tree.wks, Tree.wks, Tree.wks, Tree.wk]; exact ⟨by simp, ⟨by decide, by decide⟩, tree_wk c, trivial⟩
  | .ret a => by rw [Ty.tree, Tree.wk, Tree.wks, Tree.wks, Tree.wks, Tree.wk]; exact ⟨by simp, ⟨by decide, by decide⟩, tree_wk a, trivial⟩
  | .fn a c => by rw [Ty.tree, Tree.wk, Tree.wks, Tree.wks, Tree.wks, Tree.wks, Tree.wk]; exact ⟨by simp, ⟨by decide, by decide⟩, tree_wk a, tree_wk c, trivial⟩
  | .choice c d => by rw [Ty.tree, Tree.wk, Tree.wks, Tree.wks, Tree.wks, Tree.wks, Tree.wk]; exact ⟨by simp, ⟨by decide, by decide⟩, tree_wk c, tree_wk d, trivial⟩
theorem atoms_pos : ∀ t : Ty, 1 ≤ t.atoms
  | .bit => Nat.le_refl _
  | .pair a b => by rw [Ty.atoms]; omega
  | .thunk c => by rw [Ty.atoms]; omega
  | .ret a => by rw [Ty.atoms]; omega
  | .fn a c => by rw [Ty.atoms]; omega
  | .choice c d => by rw [Ty.atoms]; omega
theorem tree_dp : ∀ t : Ty, t.tree.dp ≤ t.atoms
  | .bit => by rw [Ty.tree, Tree.dp, Ty.atoms]; exact Nat.le_refl _
  | .pair a b => by
    have := tree_dp a; have := tree_dp b; have := atoms_pos a; have := atoms_pos b
    rw [Ty.tree, Tree.dp, Tree.dps, Tree.dps, Tree.dps, Tree.dps, Tree.dp, Ty.atoms]
    exact Nat.add_le_add_left (Nat.max_le.2 ⟨by omega, Nat.max_le.2 ⟨by omega, Nat.max_le.2 ⟨by omega, Nat.zero_le _⟩⟩⟩) 1
  | .thunk c => by
    have := tree_dp c; have := atoms_pos c
    rw [Ty.tree, Tree.dp, Tree.dps, Tree.dps, Tree.dps, Tree.dp, Ty.atoms]
    exact Nat.add_le_add_left (Nat.max_le.2 ⟨by omega, Nat.max_le.2 ⟨by omega, Nat.zero_le _⟩⟩) 1
  | .ret c => by
    have := tree_dp c; have := atoms_pos c
    rw [Ty.tree, Tree.dp, Tree.dps, Tree.dps, Tree.dps, Tree.dp, Ty.atoms]
    exact Nat.add_le_add_left (Nat.max_le.2 ⟨by omega, Nat.max_le.2 ⟨by omega, Nat.zero_le _⟩⟩) 1
  | .fn a b => by
    have := tree_dp a; have := tree_dp b; have := atoms_pos a; have := atoms_pos b
    rw [Ty.tree, Tree.dp, Tree.dps, Tree.dps, Tree.dps, Tree.dps, Tree.dp, Ty.atoms]
    exact Nat.add_le_add_left (Nat.max_le.2 ⟨by omega, Nat.max_le.2 ⟨by omega, Nat.max_le.2 ⟨by omega, Nat.zero_le _⟩⟩⟩) 1
  | .choice a b => by
    have := tree_dp a; have := tree_dp b; have := atoms_pos a; have := atoms_pos b
    rw [Ty.tree, Tree.dp, Tree.dps, Tree.dps, Tree.dps, Tree.dps, Tree.dp, Ty.atoms]
    exact Nat.add_le_add_left (Nat.max_le.2 ⟨by omega, Nat.max_le.2 ⟨by omega, Nat.max_le.2 ⟨by omega, Nat.zero_le _⟩⟩⟩) 1

theorem tyParts_tree {q : Tree} {h : ByteArray} {ks : List Ty} {ty : Ty} (hp : tyParts h.toList ks = some ty) (hq : q = .atom h) : Tree.node (q :: ks.map Ty.tree) = ty.tree := by
  have hb : ∀ {x : UInt8}, h.toList = [x] → h = ⟨#[x]⟩ := fun e => by
    apply ByteArray.ext; apply Array.toList_inj.1
    rw [Go.ByteArray.toList_eq] at e; exact e
  subst hq
  unfold tyParts at hp
  split at hp
  · split at hp
    · rename_i c; simp at hp; subst hp; rw [hb c.1]; rfl
    · split at hp
      · rename_i c; simp at hp; subst hp; rw [hb c.1]; rfl
      · split at hp
        · rename_i c; simp at hp; subst hp; rw [hb c.1]; rfl
        · simp at hp
  · split at hp
    · rename_i c; simp at hp; subst hp; rw [hb c.1]; rfl
    · split at hp
      · rename_i c; simp at hp; subst hp; rw [hb c.1]; rfl
      · simp at hp
  · simp at hp
mutual
/-- A tree that is a type is the type's tree. -/
theorem ty_tree : ∀ (t : Tree) (ty : Ty), t.ty = some ty → t = ty.tree
  | .atom s, ty, h => by
    rw [Tree.ty] at h
    split at h
    · rename_i c
      simp at h; subst h
      rw [Go.ByteArray.toList_eq] at c
      rw [Ty.tree]; congr 1; apply ByteArray.ext; apply Array.toList_inj.1; exact c
    · simp at h
  | .node [], ty, h => by rw [Tree.ty] at h; simp at h
  | .node (q :: qs), ty, h => by
    rw [Tree.ty] at h
    cases hk : Tree.tys qs with
    | none => rw [hk] at h; simp at h
    | some ks =>
      rw [hk] at h
      simp only at h
      cases q with
      | atom s => rw [tys_tree qs ks hk]; exact tyParts_tree h rfl
      | node ps =>
        rw [Tree.text] at h
        have := tyParts_head h
        rw [Go.ByteArray.toList_eq] at this
        simp at this
theorem tys_tree : ∀ (ps : List Tree) (ks : List Ty), Tree.tys ps = some ks → ps = ks.map Ty.tree
  | [], ks, h => by rw [Tree.tys] at h; simp at h; subst h; rfl
  | p :: ps, ks, h => by
    rw [Tree.tys] at h
    cases hp : p.ty with
    | none => rw [hp] at h; simp at h
    | some t =>
      rw [hp] at h; simp only at h
      cases hr : Tree.tys ps with
      | none => rw [hr] at h; simp at h
      | some ts =>
        rw [hr] at h; simp at h; subst h
        rw [List.map_cons, ← ty_tree p t hp, ← tys_tree ps ts hr]
end
end Go.Proofs.Ytknjpdbdchnpeaa
