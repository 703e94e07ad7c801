/- Merged: SrcP, NtP. -/
import Derived.Test.YtlggbhakkhecmaaVMSJoinP
import Derived.Test.YtlggbhakkhecmaaVM5
namespace Go.Proofs.Ytlggbhakkhecmaa
open Go.RowKit

/-- A source type. -/
inductive STy where
  | bit
  | fn (a b : STy)
  | pair (a b : STy)
/-- A source type of parts. -/
def stParts : List Tree → List (Option STy) → Option STy
  | [h, _, _], [_, some a, some b] => if h.text.toList = [62] then some (.fn a b) else if h.text.toList = [42] then some (.pair a b) else none
  | _, _ => none
mutual
/-- What a tree is as a source type of any size. -/
def Tree.sty : Tree → Option STy
  | .atom s => if s.toList = [98] then some .bit else none
  | .node ps => stParts ps (Tree.stys ps)
def Tree.stys : List Tree → List (Option STy)
  | [] => []
  | p :: ps => p.sty :: Tree.stys ps
end
theorem stys_length (ps : List Tree) : (Tree.stys ps).length = ps.length := by
  induction ps with
  | nil => rfl
  | cons p ps ih => simp [Tree.stys, ih]
theorem sty_not3 {ps : List Tree} (h : ps.length ≠ 3) : (Tree.node ps).sty = none := by
  rw [Tree.sty, stParts]
  rintro x y z a b o rfl _
  simp at h
theorem sty_bad1 {h x y : Tree} (hx : x.sty = none) : (Tree.node [h, x, y]).sty = none := by
  rw [Tree.sty]; simp only [Tree.stys, hx]; rfl
theorem sty_bad2 {h x y : Tree} (hy : y.sty = none) : (Tree.node [h, x, y]).sty = none := by
  rw [Tree.sty]; simp only [Tree.stys, hy]; cases x.sty <;> rfl
theorem sty_three {h x y : Tree} {a b : STy} (hx : x.sty = some a) (hy : y.sty = some b) :
    (Tree.node [h, x, y]).sty = if h.text.toList = [62] then some (.fn a b) else if h.text.toList = [42] then some (.pair a b) else none := by
  rw [Tree.sty]; simp only [Tree.stys, hx, hy]; rfl
theorem sty_bad0 {h x y : Tree} (h1 : h.text.toList ≠ [62]) (h2 : h.text.toList ≠ [42]) : (Tree.node [h, x, y]).sty = none := by
  cases hx : x.sty with
  | none => exact sty_bad1 hx
  | some a =>
    cases hy : y.sty with
    | none => exact sty_bad2 hy
    | some b => rw [sty_three hx hy, if_neg h1, if_neg h2]

def sBit : ByteArray := ⟨#[98]⟩
def sFn : ByteArray := ⟨#[62]⟩
def sPr : ByteArray := ⟨#[42]⟩
theorem sBit_l : sBit.toList = [98] := by rw [Go.ByteArray.toList_eq]; rfl
theorem sFn_l : sFn.toList = [62] := by rw [Go.ByteArray.toList_eq]; rfl
theorem sPr_l : sPr.toList = [42] := by rw [Go.ByteArray.toList_eq]; rfl
/-- How many atoms a source type has. -/
def STy.n : STy → Nat
  | .bit => 1
  | .fn a b => 1 + a.n + b.n
  | .pair a b => 1 + a.n + b.n
theorem STy.n_pos (s : STy) : 1 ≤ s.n := by cases s <;> simp only [STy.n] <;> omega
/-- A source type as a tree. -/
def STy.tree : STy → Tree
  | .bit => .atom sBit
  | .fn a b => .node [.atom sFn, a.tree, b.tree]
  | .pair a b => .node [.atom sPr, a.tree, b.tree]
/-- The value translation of a source type. -/
def STy.byv : STy → Tree
  | .bit => .atom sBit
  | .fn a b => .node [.atom ⟨#[117]⟩, .node [.atom sFn, a.byv, .node [.atom ⟨#[102]⟩, b.byv]]]
  | .pair a b => .node [.atom sPr, a.byv, b.byv]
/-- The simple expression of a source type. -/
def STy.dfl : STy → Tree
  | .bit => .atom ⟨#[48]⟩
  | .fn a b => .node [.atom ⟨#[108, 97, 109]⟩, .atom ⟨#[120]⟩, a.tree, b.dfl]
  | .pair a b => .node [.atom ⟨#[112, 97, 105, 114]⟩, a.dfl, b.dfl]
theorem tree_n (s : STy) : s.tree.size = s.n := by
  induction s with
  | bit => rfl
  | fn a b iha ihb => simp [STy.tree, Tree.size, Tree.sizes, iha, ihb, STy.n]; omega
  | pair a b iha ihb => simp [STy.tree, Tree.size, Tree.sizes, iha, ihb, STy.n]; omega
theorem tree_len (s : STy) : s.tree.write.length ≤ 5 * s.n := by
  induction s with
  | bit => simp [STy.tree, Tree.write, sBit, STy.n]
  | fn a b iha ihb => simp [STy.tree, Tree.write, Tree.writes, sFn, STy.n]; omega
  | pair a b iha ihb => simp [STy.tree, Tree.write, Tree.writes, sPr, STy.n]; omega
theorem tree_wt (s : STy) : s.tree.wt ≤ 3 * s.n := by
  induction s with
  | bit => simp [STy.tree, Tree.wt, STy.n]
  | fn a b iha ihb => simp [STy.tree, Tree.wt, Tree.wts, STy.n]; omega
  | pair a b iha ihb => simp [STy.tree, Tree.wt, Tree.wts, STy.n]; omega
theorem byv_len (s : STy) : s.byv.write.length ≤ 13 * s.n := by
  induction s with
  | bit => simp [STy.byv, Tree.write, sBit, STy.n]
  | fn a b iha ihb => simp [STy.byv, Tree.write, Tree.writes, sFn, STy.n]; omega
  | pair a b iha ihb => simp [STy.byv, Tree.write, Tree.writes, sPr, STy.n]; omega
theorem dfl_len (s : STy) : s.dfl.write.length ≤ 9 * s.n := by
  induction s with
  | bit => simp [STy.dfl, Tree.write, STy.n]
  | fn a b iha ihb => have := tree_len a; simp [STy.dfl, Tree.write, Tree.writes, STy.n]; omega
  | pair a b iha ihb => simp [STy.dfl, Tree.write, Tree.writes, STy.n]; omega
theorem text_atom {h : Tree} {c : UInt8} (e : h.text.toList = [c]) : h = .atom ⟨#[c]⟩ := by
  cases h with
  | atom s => rw [Tree.text] at e; rw [bytes_of_toList e]
  | node ps => rw [Tree.text, empty_toList] at e; simp at e
mutual
/-- A tree that is a source type is its tree. -/
theorem sty_tree : ∀ (t : Tree) (s : STy), t.sty = some s → t = s.tree
  | .atom x, s, h => by
    rw [Tree.sty] at h
    split at h
    · rename_i e
      simp at h; subst h
      rw [bytes_of_toList e]; rfl
    · simp at h
  | .node ps, s, h => by
    match ps, h with
    | [q, x, y], h =>
      cases hx : x.sty with
      | none => rw [sty_bad1 hx] at h; simp at h
      | some a =>
        cases hy : y.sty with
        | none => rw [sty_bad2 hy] at h; simp at h
        | some b =>
          have e1 := sty_tree x a hx
          have e2 := sty_tree y b hy
          rw [sty_three hx hy] at h
          split at h
          · rename_i e; simp at h; subst h; rw [text_atom e, e1, e2]; rfl
          · split at h
            · rename_i e; simp at h; subst h; rw [text_atom e, e1, e2]; rfl
            · simp at h
    | [], h => rw [sty_not3 (by simp)] at h; simp at h
    | [_], h => rw [sty_not3 (by simp)] at h; simp at h
    | [_, _], h => rw [sty_not3 (by simp)] at h; simp at h
    | _ :: _ :: _ :: _ :: _, h => rw [sty_not3 (by simp)] at h; simp at h
end
/-- What a tree is as a source type with few atoms. -/
def stLim (t : Tree) : Option STy := if t.size ≤ 12 then t.sty else none
/-- What a text is as a source type. -/
def readSty (s : ByteArray) : Option STy :=
  match parse s with
  | some t => if t.size ≤ 12 then t.sty else none
  | none => none
/-- The same as a tree. -/
def styTree (s : ByteArray) : Option Tree :=
  match parse s with
  | some t => if t.sty.isSome ∧ t.size ≤ 12 then some t else none
  | none => none
theorem readSty_none {s : ByteArray} (h : parse s = none) : readSty s = none := by rw [readSty, h]
theorem styTree_none {s : ByteArray} (h : parse s = none) : styTree s = none := by rw [styTree, h]
theorem styTree_eq (s : ByteArray) : styTree s = (readSty s).map STy.tree := by
  unfold styTree readSty
  cases hp : parse s with
  | none => rfl
  | some t =>
    simp only
    by_cases h12 : t.size ≤ 12
    · rw [if_pos h12]
      cases ht : t.sty with
      | none => rw [if_neg (by simp)]; rfl
      | some x => rw [if_pos ⟨rfl, h12⟩, Option.map_some, ← sty_tree t x ht]
    · rw [if_neg (fun h => h12 h.2), if_neg h12]; rfl
theorem readSty_n {s : ByteArray} {x : STy} (h : readSty s = some x) : x.n ≤ 12 := by
  unfold readSty at h
  cases hp : parse s with
  | none => rw [hp] at h; simp at h
  | some t =>
    rw [hp] at h; simp only at h
    split at h
    · rename_i h12
      rw [sty_tree t x h, tree_n] at h12; exact h12
    · simp at h
theorem hk_alloc {w0 w : World} (hk : Kept w0 w) (hw : w0.heap.size ≤ w.heap.size) (o : Obj) : Kept w0 (w.alloc o) := hk.alloc hw o
/-- The cells of a tree of three parts, and the box of the copy that a call is given. -/
theorem box3 {w0 w : World} {x y : Value} {T : TypeId} {b : Nat} {A : Nat → Hd} (hk : Kept w0 w) (hw : w0.heap.size ≤ w.heap.size)
    (hA : ∀ i, i < 3 → w0.cell? ⟨b, i * 2, none⟩ = some (.string (A i).a)) (hB : ∀ i, i < 3 → w0.cell? ⟨b, i * 2 + 1, none⟩ = some (.slice (A i).p (A i).l (A i).c))
    (W : World) (hb : Below (w.heap.size + 1) (w.alloc (.cells #[x, y] T)) W) :
    (W.cell? ⟨w.heap.size, 0, none⟩ = some x ∧ W.cell? ⟨w.heap.size, 1, none⟩ = some y) ∧
    (W.cell? ⟨b, 0, none⟩ = some (.string (A 0).a) ∧ W.cell? ⟨b, 1, none⟩ = some (.slice (A 0).p (A 0).l (A 0).c) ∧
     W.cell? ⟨b, 2, none⟩ = some (.string (A 1).a) ∧ W.cell? ⟨b, 3, none⟩ = some (.slice (A 1).p (A 1).l (A 1).c) ∧
     W.cell? ⟨b, 4, none⟩ = some (.string (A 2).a) ∧ W.cell? ⟨b, 5, none⟩ = some (.slice (A 2).p (A 2).l (A 2).c)) ∧ Kept w0 W ∧ w.heap.size < W.heap.size ∧ Below w.heap.size w W := by
  have c1 := cells_of_pair (block_below (heap_new w (.cells #[x, y] T) w.heap.size rfl) hb (by omega))
  have kb : Kept w0 W := (hk.alloc hw _).below hb (by omega)
  have hz := hb.size
  simp at hz
  have a0 := kb.cell (hA 0 (by omega))
  have a1 := kb.cell (hA 1 (by omega))
  have a2 := kb.cell (hA 2 (by omega))
  have b0 := kb.cell (hB 0 (by omega))
  have b1 := kb.cell (hB 1 (by omega))
  have b2 := kb.cell (hB 2 (by omega))
  exact ⟨⟨c1.1, c1.2.1⟩, ⟨a0, b0, a1, b1, a2, b2⟩, kb, by omega, ((Below.refl _ _).alloc (Nat.le_refl _) _).trans (hb.mono (by omega))⟩
theorem below_nx {w W w1 : World} (h1 : Below W.heap.size W w1) (h : Below w.heap.size w W) : Below w.heap.size w w1 := h.trans (h1.mono h.size)
end Go.Proofs.Ytlggbhakkhecmaa

namespace Go.Proofs.Ytlggbhakkhecmaa
open Go.RowKit

/-- The name translation of a source type. -/
def STy.byn : STy → Tree
  | .bit => .node [.atom ⟨#[102]⟩, .atom ⟨#[98]⟩]
  | .fn a b => .node [.atom ⟨#[62]⟩, .node [.atom ⟨#[117]⟩, a.byn], b.byn]
  | .pair a b => .node [.atom ⟨#[38]⟩, a.byn, b.byn]
theorem byn_len (s : STy) : s.byn.write.length ≤ 13 * s.n := by
  induction s with
  | bit => simp [STy.byn, Tree.write, Tree.writes, STy.n]
  | fn a b iha ihb => simp [STy.byn, Tree.write, Tree.writes, STy.n]; omega
  | pair a b iha ihb => simp [STy.byn, Tree.write, Tree.writes, STy.n]; omega
end Go.Proofs.Ytlggbhakkhecmaa
