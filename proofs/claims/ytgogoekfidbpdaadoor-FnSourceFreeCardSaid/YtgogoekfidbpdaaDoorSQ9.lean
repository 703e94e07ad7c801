/- Merged: SrcP, SxP, SxFp, SxH, StP, StH, StTd, LsT. -/
import Derived.Test.YtgogoekfidbpdaaDoorSQSJoinP
import Derived.Test.YtgogoekfidbpdaaDoorSQ8
import Derived.Test.YtgogoekfidbpdaaDoorSQ0
namespace Go.Proofs.YtgogoekfidbpdaaDoor
open Go.RowKit

/-- A source type. -/
inductive STy where
  | bit
  | fn (a b : STy)
  | pair (a b : STy)
/-- A source type of parts. -/
def stParts : List Tree → List (Option STy) → Option STy
  | [h, _, _], [_, some a, some b] => if h.text.toList = [62] then some (.fn a b) else if h.text.toList = [42] then some (.pair a b) else none
  | _, _ => none
mutual
/-- What a tree is as a source type of any size. -/
def Tree.sty : Tree → Option STy
  | .atom s => if s.toList = [98] then some .bit else none
  | .node ps => stParts ps (Tree.stys ps)
def Tree.stys : List Tree → List (Option STy)
  | [] => []
  | p :: ps => p.sty :: Tree.stys ps
end
theorem stys_length (ps : List Tree) : (Tree.stys ps).length = ps.length := by
  induction ps with
  | nil => rfl
  | cons p ps ih => simp [Tree.stys, ih]
theorem sty_not3 {ps : List Tree} (h : ps.length ≠ 3) : (Tree.node ps).sty = none := by
  rw [Tree.sty, stParts]
  rintro x y z a b o rfl _
  simp at h
theorem sty_bad1 {h x y : Tree} (hx : x.sty = none) : (Tree.node [h, x, y]).sty = none := by
  rw [Tree.sty]; simp only [Tree.stys, hx]; rfl
theorem sty_bad2 {h x y : Tree} (hy : y.sty = none) : (Tree.node [h, x, y]).sty = none := by
  rw [Tree.sty]; simp only [Tree.stys, hy]; cases x.sty <;> rfl
theorem sty_three {h x y : Tree} {a b : STy} (hx : x.sty = some a) (hy : y.sty = some b) :
    (Tree.node [h, x, y]).sty = if h.text.toList = [62] then some (.fn a b) else if h.text.toList = [42] then some (.pair a b) else none := by
  rw [Tree.sty]; simp only [Tree.stys, hx, hy]; rfl
theorem sty_bad0 {h x y : Tree} (h1 : h.text.toList ≠ [62]) (h2 : h.text.toList ≠ [42]) : (Tree.node [h, x, y]).sty = none := by
  cases hx : x.sty with
  | none => exact sty_bad1 hx
  | some a =>
    cases hy : y.sty with
    | none => exact sty_bad2 hy
    | some b => rw [sty_three hx hy, if_neg h1, if_neg h2]

def sBit : ByteArray := ⟨#[98]⟩
def sFn : ByteArray := ⟨#[62]⟩
def sPr : ByteArray := ⟨#[42]⟩
theorem sBit_l : sBit.toList = [98] := by rw [Go.ByteArray.toList_eq]; rfl
theorem sFn_l : sFn.toList = [62] := by rw [Go.ByteArray.toList_eq]; rfl
theorem sPr_l : sPr.toList = [42] := by rw [Go.ByteArray.toList_eq]; rfl
/-- How many atoms a source type has. -/
def STy.n : STy → Nat
  | .bit => 1
  | .fn a b => 1 + a.n + b.n
  | .pair a b => 1 + a.n + b.n
theorem STy.n_pos (s : STy) : 1 ≤ s.n := by cases s <;> simp only [STy.n] <;> omega
/-- A source type as a tree. -/
def STy.tree : STy → Tree
  | .bit => .atom sBit
  | .fn a b => .node [.atom sFn, a.tree, b.tree]
  | .pair a b => .node [.atom sPr, a.tree, b.tree]
/-- The value translation of a source type. -/
def STy.byv : STy → Tree
  | .bit => .atom sBit
  | .fn a b => .node [.atom ⟨#[117]⟩, .node [.atom sFn, a.byv, .node [.atom ⟨#[102]⟩, b.byv]]]
  | .pair a b => .node [.atom sPr, a.byv, b.byv]
/-- The simple expression of a source type. -/
def STy.dfl : STy → Tree
  | .bit => .atom ⟨#[48]⟩
  | .fn a b => .node [.atom ⟨#[108, 97, 109]⟩, .atom ⟨#[120]⟩, a.tree, b.dfl]
  | .pair a b => .node [.atom ⟨#[112, 97, 105, 114]⟩, a.dfl, b.dfl]
theorem tree_n (s : STy) : s.tree.size = s.n := by
  induction s with
  | bit => rfl
  | fn a b iha ihb => simp [STy.tree, Tree.size, Tree.sizes, iha, ihb, STy.n]; omega
  | pair a b iha ihb => simp [STy.tree, Tree.size, Tree.sizes, iha, ihb, STy.n]; omega
theorem tree_len (s : STy) : s.tree.write.length ≤ 5 * s.n := by
  induction s with
  | bit => simp [STy.tree, Tree.write, sBit, STy.n]
  | fn a b iha ihb => simp [STy.tree, Tree.write, Tree.writes, sFn, STy.n]; omega
  | pair a b iha ihb => simp [STy.tree, Tree.write, Tree.writes, sPr, STy.n]; omega
theorem tree_wt (s : STy) : s.tree.wt ≤ 3 * s.n := by
  induction s with
  | bit => simp [STy.tree, Tree.wt, STy.n]
  | fn a b iha ihb => simp [STy.tree, Tree.wt, Tree.wts, STy.n]; omega
  | pair a b iha ihb => simp [STy.tree, Tree.wt, Tree.wts, STy.n]; omega
theorem byv_len (s : STy) : s.byv.write.length ≤ 13 * s.n := by
  induction s with
  | bit => simp [STy.byv, Tree.write, sBit, STy.n]
  | fn a b iha ihb => simp [STy.byv, Tree.write, Tree.writes, sFn, STy.n]; omega
  | pair a b iha ihb => simp [STy.byv, Tree.write, Tree.writes, sPr, STy.n]; omega
theorem dfl_len (s : STy) : s.dfl.write.length ≤ 9 * s.n := by
  induction s with
  | bit => simp [STy.dfl, Tree.write, STy.n]
  | fn a b iha ihb => have := tree_len a; simp [STy.dfl, Tree.write, Tree.writes, STy.n]; omega
  | pair a b iha ihb => simp [STy.dfl, Tree.write, Tree.writes, STy.n]; omega
theorem text_atom {h : Tree} {c : UInt8} (e : h.text.toList = [c]) : h = .atom ⟨#[c]⟩ := by
  cases h with
  | atom s => rw [Tree.text] at e; rw [bytes_of_toList e]
  | node ps => rw [Tree.text, empty_toList] at e; simp at e
mutual
/-- A tree that is a source type is its tree. -/
theorem sty_tree : ∀ (t : Tree) (s : STy), t.sty = some s → t = s.tree
  | .atom x, s, h => by
    rw [Tree.sty] at h
    split at h
    · rename_i e
      simp at h; subst h
      rw [bytes_of_toList e]; rfl
    · simp at h
  | .node ps, s, h => by
    match ps, h with
    | [q, x, y], h =>
      cases hx : x.sty with
      | none => rw [sty_bad1 hx] at h; simp at h
      | some a =>
        cases hy : y.sty with
        | none => rw [sty_bad2 hy] at h; simp at h
        | some b =>
          have e1 := sty_tree x a hx
          have e2 := sty_tree y b hy
          rw [sty_three hx hy] at h
          split at h
          · rename_i e; simp at h; subst h; rw [text_atom e, e1, e2]; rfl
          · split at h
            · rename_i e; simp at h; subst h; rw [text_atom e, e1, e2]; rfl
            · simp at h
    | [], h => rw [sty_not3 (by simp)] at h; simp at h
    | [_], h => rw [sty_not3 (by simp)] at h; simp at h
    | [_, _], h => rw [sty_not3 (by simp)] at h; simp at h
    | _ :: _ :: _ :: _ :: _, h => rw [sty_not3 (by simp)] at h; simp at h
end
/-- What a tree is as a source type with few atoms. -/
def stLim (t : Tree) : Option STy := if t.size ≤ 12 then t.sty else none
/-- What a text is as a source type. -/
def readSty (s : ByteArray) : Option STy :=
  match parse s with
  | some t => if t.size ≤ 12 then t.sty else none
  | none => none
/-- The same as a tree. -/
def styTree (s : ByteArray) : Option Tree :=
  match parse s with
  | some t => if t.sty.isSome ∧ t.size ≤ 12 then some t else none
  | none => none
theorem readSty_none {s : ByteArray} (h : parse s = none) : readSty s = none := by rw [readSty, h]
theorem styTree_none {s : ByteArray} (h : parse s = none) : styTree s = none := by rw [styTree, h]
theorem styTree_eq (s : ByteArray) : styTree s = (readSty s).map STy.tree := by
  unfold styTree readSty
  cases hp : parse s with
  | none => rfl
  | some t =>
    simp only
    by_cases h12 : t.size ≤ 12
    · rw [if_pos h12]
      cases ht : t.sty with
      | none => rw [if_neg (by simp)]; rfl
      | some x => rw [if_pos ⟨rfl, h12⟩, Option.map_some, ← sty_tree t x ht]
    · rw [if_neg (fun h => h12 h.2), if_neg h12]; rfl
theorem readSty_n {s : ByteArray} {x : STy} (h : readSty s = some x) : x.n ≤ 12 := by
  unfold readSty at h
  cases hp : parse s with
  | none => rw [hp] at h; simp at h
  | some t =>
    rw [hp] at h; simp only at h
    split at h
    · rename_i h12
      rw [sty_tree t x h, tree_n] at h12; exact h12
    · simp at h
theorem hk_alloc {w0 w : World} (hk : Kept w0 w) (hw : w0.heap.size ≤ w.heap.size) (o : Obj) : Kept w0 (w.alloc o) := hk.alloc hw o
/-- The cells of a tree of three parts, and the box of the copy that a call is given. -/
theorem box3 {w0 w : World} {x y : Value} {T : TypeId} {b : Nat} {A : Nat → Hd} (hk : Kept w0 w) (hw : w0.heap.size ≤ w.heap.size)
    (hA : ∀ i, i < 3 → w0.cell? ⟨b, i * 2, none⟩ = some (.string (A i).a)) (hB : ∀ i, i < 3 → w0.cell? ⟨b, i * 2 + 1, none⟩ = some (.slice (A i).p (A i).l (A i).c))
    (W : World) (hb : Below (w.heap.size + 1) (w.alloc (.cells #[x, y] T)) W) :
    (W.cell? ⟨w.heap.size, 0, none⟩ = some x ∧ W.cell? ⟨w.heap.size, 1, none⟩ = some y) ∧
    (W.cell? ⟨b, 0, none⟩ = some (.string (A 0).a) ∧ W.cell? ⟨b, 1, none⟩ = some (.slice (A 0).p (A 0).l (A 0).c) ∧
     W.cell? ⟨b, 2, none⟩ = some (.string (A 1).a) ∧ W.cell? ⟨b, 3, none⟩ = some (.slice (A 1).p (A 1).l (A 1).c) ∧
     W.cell? ⟨b, 4, none⟩ = some (.string (A 2).a) ∧ W.cell? ⟨b, 5, none⟩ = some (.slice (A 2).p (A 2).l (A 2).c)) ∧ Kept w0 W ∧ w.heap.size < W.heap.size ∧ Below w.heap.size w W := by
  have c1 := cells_of_pair (block_below (heap_new w (.cells #[x, y] T) w.heap.size rfl) hb (by omega))
  have kb : Kept w0 W := (hk.alloc hw _).below hb (by omega)
  have hz := hb.size
  simp at hz
  have a0 := kb.cell (hA 0 (by omega))
  have a1 := kb.cell (hA 1 (by omega))
  have a2 := kb.cell (hA 2 (by omega))
  have b0 := kb.cell (hB 0 (by omega))
  have b1 := kb.cell (hB 1 (by omega))
  have b2 := kb.cell (hB 2 (by omega))
  exact ⟨⟨c1.1, c1.2.1⟩, ⟨a0, b0, a1, b1, a2, b2⟩, kb, by omega, ((Below.refl _ _).alloc (Nat.le_refl _) _).trans (hb.mono (by omega))⟩
theorem below_nx {w W w1 : World} (h1 : Below W.heap.size W w1) (h : Below w.heap.size w W) : Below w.heap.size w w1 := h.trans (h1.mono h.size)
end Go.Proofs.YtgogoekfidbpdaaDoor

namespace Go.Proofs.YtgogoekfidbpdaaDoor
open Go.RowKit

/-- A source expression. -/
inductive Sx where
  | name (a : ByteArray)
  | bit (a : ByteArray)
  | lam (x : ByteArray) (s : STy) (e : Sx)
  | app (d e : Sx)
  | iff (d e g : Sx)
  | pair (d e : Sx)
  | fst (e : Sx)
  | snd (e : Sx)
  | get
  | put (e : Sx)
  | fail (s : STy)
def hName : ByteArray := ⟨#[110, 97, 109, 101]⟩
def hBit : ByteArray := ⟨#[98, 105, 116]⟩
def hLam : ByteArray := ⟨#[108, 97, 109]⟩
def hApp : ByteArray := ⟨#[97, 112, 112]⟩
def hIf : ByteArray := ⟨#[105, 102]⟩
def hPair : ByteArray := ⟨#[112, 97, 105, 114]⟩
def hFst : ByteArray := ⟨#[102, 115, 116]⟩
def hSnd : ByteArray := ⟨#[115, 110, 100]⟩
def hGet : ByteArray := ⟨#[103, 101, 116]⟩
def hPut : ByteArray := ⟨#[112, 117, 116]⟩
def hFail : ByteArray := ⟨#[102, 97, 105, 108]⟩
theorem hName_l : hName.toList = [110, 97, 109, 101] := by rw [Go.ByteArray.toList_eq]; rfl
theorem hBit_l : hBit.toList = [98, 105, 116] := by rw [Go.ByteArray.toList_eq]; rfl
theorem hLam_l : hLam.toList = [108, 97, 109] := by rw [Go.ByteArray.toList_eq]; rfl
theorem hApp_l : hApp.toList = [97, 112, 112] := by rw [Go.ByteArray.toList_eq]; rfl
theorem hIf_l : hIf.toList = [105, 102] := by rw [Go.ByteArray.toList_eq]; rfl
theorem hPair_l : hPair.toList = [112, 97, 105, 114] := by rw [Go.ByteArray.toList_eq]; rfl
theorem hFst_l : hFst.toList = [102, 115, 116] := by rw [Go.ByteArray.toList_eq]; rfl
theorem hSnd_l : hSnd.toList = [115, 110, 100] := by rw [Go.ByteArray.toList_eq]; rfl
theorem hGet_l : hGet.toList = [103, 101, 116] := by rw [Go.ByteArray.toList_eq]; rfl
theorem hPut_l : hPut.toList = [112, 117, 116] := by rw [Go.ByteArray.toList_eq]; rfl
theorem hFail_l : hFail.toList = [102, 97, 105, 108] := by rw [Go.ByteArray.toList_eq]; rfl
/-- The first word of an expression, as the program keeps it. -/
def Sx.head : Sx → ByteArray
  | .name _ => hName
  | .bit _ => hBit
  | .lam _ _ _ => hLam
  | .app _ _ => hApp
  | .iff _ _ _ => hIf
  | .pair _ _ => hPair
  | .fst _ => hFst
  | .snd _ => hSnd
  | .get => hGet
  | .put _ => hPut
  | .fail _ => hFail
def Sx.atom : Sx → ByteArray
  | .name a => a
  | .bit a => a
  | _ => ByteArray.empty
def Sx.nm : Sx → ByteArray
  | .lam x _ _ => x
  | _ => ByteArray.empty
def Sx.ty : Sx → Option STy
  | .lam _ s _ => some s
  | .fail s => some s
  | _ => none
def Sx.kids : Sx → List Sx
  | .lam _ _ e => [e]
  | .app d e => [d, e]
  | .iff d e g => [d, e, g]
  | .pair d e => [d, e]
  | .fst e => [e]
  | .snd e => [e]
  | .put e => [e]
  | _ => []
theorem kids_3 (e : Sx) : e.kids.length ≤ 3 := by cases e <;> simp [Sx.kids]
/-- An expression as a tree. -/
def Sx.tree : Sx → Tree
  | .name a => .atom a
  | .bit a => .atom a
  | .lam x s e => .node [.atom hLam, .atom x, s.tree, e.tree]
  | .app d e => .node [.atom hApp, d.tree, e.tree]
  | .iff d e g => .node [.atom hIf, d.tree, e.tree, g.tree]
  | .pair d e => .node [.atom hPair, d.tree, e.tree]
  | .fst e => .node [.atom hFst, e.tree]
  | .snd e => .node [.atom hSnd, e.tree]
  | .get => .node [.atom hGet]
  | .put e => .node [.atom hPut, e.tree]
  | .fail s => .node [.atom hFail, s.tree]

/-- What stands behind a head: an expression, a name, a source type. -/
inductive Fg where
  | e
  | x
  | s
def Fg.up : Fg → UInt8
  | .e => 101
  | .x => 120
  | .s => 83
def Fg.low : Fg → UInt8
  | .e => 101
  | .x => 120
  | .s => 115
def frm (l : List UInt8) : Option (List Fg) :=
  if l = [108, 97, 109] then some [.x, .s, .e]
  else if l = [105, 102] then some [.e, .e, .e]
  else if l = [97, 112, 112] ∨ l = [112, 97, 105, 114] then some [.e, .e]
  else if l = [102, 115, 116] ∨ l = [115, 110, 100] ∨ l = [112, 117, 116] then some [.e]
  else if l = [103, 101, 116] then some []
  else if l = [102, 97, 105, 108] then some [.s]
  else none
theorem frm_cases {l : List UInt8} {f : List Fg} (h : frm l = some f) :
    (l = hLam.toList ∧ f = [.x, .s, .e]) ∨ (l = hIf.toList ∧ f = [.e, .e, .e]) ∨ (l = hApp.toList ∧ f = [.e, .e]) ∨ (l = hPair.toList ∧ f = [.e, .e]) ∨
    (l = hFst.toList ∧ f = [.e]) ∨ (l = hSnd.toList ∧ f = [.e]) ∨ (l = hPut.toList ∧ f = [.e]) ∨ (l = hGet.toList ∧ f = []) ∨ (l = hFail.toList ∧ f = [.s]) := by
  rw [hLam_l, hIf_l, hApp_l, hPair_l, hFst_l, hSnd_l, hPut_l, hGet_l, hFail_l]
  unfold frm at h
  split at h
  · simp at h; simp [*]
  split at h
  · simp at h; simp [*]
  split at h
  · rename_i h3; simp at h; rcases h3 with h3 | h3 <;> simp [h3, ← h]
  split at h
  · rename_i h3; simp at h; rcases h3 with h3 | h3 | h3 <;> simp [h3, ← h]
  split at h
  · simp at h; simp [*]
  split at h
  · simp at h; simp [*]
  · simp at h

/-- What has been gathered of an expression's parts. -/
structure Sst where
  nm : ByteArray
  ty : Option STy
  ks : List Sx
def Sst.none : Sst := ⟨ByteArray.empty, .none, []⟩
def add7 : Fg → Tree → Option Sx → Sst → Option Sst
  | .x, p, _, st => if nameB p.text.toList = true then some ⟨p.text, st.ty, st.ks⟩ else none
  | .s, p, _, st => match stLim p with
    | some s => some ⟨st.nm, some s, st.ks⟩
    | .none => .none
  | .e, _, o, st => match o with
    | some k => some ⟨st.nm, st.ty, st.ks ++ [k]⟩
    | .none => .none
def addL : List Fg → List Tree → List (Option Sx) → Sst → Option Sst
  | [], [], [], st => some st
  | g :: gs, p :: ps, o :: os, st => match add7 g p o st with
    | some st' => addL gs ps os st'
    | none => none
  | _, _, _, _ => none
/-- The expression of a head with its parts. -/
def mkSx (l : List UInt8) : Sst → Option Sx
  | ⟨x, some s, [e]⟩ => if l = [108, 97, 109] then some (.lam x s e) else none
  | ⟨_, none, [d, e, g]⟩ => if l = [105, 102] then some (.iff d e g) else none
  | ⟨_, none, [d, e]⟩ => if l = [97, 112, 112] then some (.app d e) else if l = [112, 97, 105, 114] then some (.pair d e) else none
  | ⟨_, none, [e]⟩ => if l = [102, 115, 116] then some (.fst e) else if l = [115, 110, 100] then some (.snd e) else if l = [112, 117, 116] then some (.put e) else none
  | ⟨_, none, []⟩ => if l = [103, 101, 116] then some .get else none
  | ⟨_, some s, []⟩ => if l = [102, 97, 105, 108] then some (.fail s) else none
  | _ => none
def sxParts (ps : List Tree) (os : List (Option Sx)) : Option Sx :=
  match ps, os with
  | q :: qs, _ :: os => match frm q.text.toList with
    | none => none
    | some f => match addL f qs os Sst.none with
      | none => none
      | some st => mkSx q.text.toList st
  | _, _ => none
/-- What an atom is as an expression. -/
def atomSx (s : ByteArray) : Option Sx := if s.toList = [48] ∨ s.toList = [49] then some (.bit s) else if nameB s.toList = true then some (.name s) else none
mutual
/-- What a tree is as a source expression of any size. -/
def Tree.sx : Tree → Option Sx
  | .atom s => atomSx s
  | .node ps => sxParts ps (Tree.sxs ps)
def Tree.sxs : List Tree → List (Option Sx)
  | [] => []
  | p :: ps => p.sx :: Tree.sxs ps
end
theorem sxs_map (ps : List Tree) : Tree.sxs ps = ps.map Tree.sx := by
  induction ps with
  | nil => rfl
  | cons p ps ih => rw [Tree.sxs, ih]; rfl
theorem sx_none {q : Tree} {qs : List Tree} (h : frm q.text.toList = none) : (Tree.node (q :: qs)).sx = none := by
  rw [Tree.sx, Tree.sxs, sxParts, h]
theorem sx_some {q : Tree} {qs : List Tree} {f : List Fg} (h : frm q.text.toList = some f) : (Tree.node (q :: qs)).sx = (addL f qs (qs.map Tree.sx) Sst.none).bind (mkSx q.text.toList) := by
  rw [Tree.sx, Tree.sxs, sxParts, h, sxs_map]
  simp only
  cases addL f qs (qs.map Tree.sx) Sst.none <;> rfl
theorem addL_len {f : List Fg} : ∀ {qs : List Tree} {os : List (Option Sx)} {st st' : Sst}, addL f qs os st = some st' → f.length = qs.length := by
  induction f with
  | nil =>
    intro qs os st st' h
    cases qs with
    | nil => rfl
    | cons q qs => simp [addL] at h
  | cons g gs ih =>
    intro qs os st st' h
    cases qs with
    | nil => simp [addL] at h
    | cons q qs =>
      cases os with
      | nil => simp [addL] at h
      | cons o os =>
        rw [addL] at h
        cases ha : add7 g q o st with
        | none => rw [ha] at h; simp at h
        | some st2 => rw [ha] at h; simp only at h; simp [ih h]
theorem addL_bad {f : List Fg} {qs : List Tree} {os : List (Option Sx)} {st : Sst} (h : f.length ≠ qs.length) : addL f qs os st = none := by
  cases ha : addL f qs os st with
  | none => rfl
  | some st' => exact absurd (addL_len ha) h
theorem addL_cons {g : Fg} {gs : List Fg} {p : Tree} {ps : List Tree} {o : Option Sx} {os : List (Option Sx)} {st : Sst} :
    addL (g :: gs) (p :: ps) (o :: os) st = match add7 g p o st with
      | some st' => addL gs ps os st'
      | none => none := rfl
theorem add7_e {p : Tree} {o : Option Sx} {st st' : Sst} (h : add7 .e p o st = some st') : ∃ k, o = some k ∧ st' = ⟨st.nm, st.ty, st.ks ++ [k]⟩ := by
  cases o with
  | none => simp [add7] at h
  | some k => simp [add7] at h; exact ⟨k, rfl, h.symm⟩
theorem add7_x {p : Tree} {o : Option Sx} {st st' : Sst} (h : add7 .x p o st = some st') : nameB p.text.toList = true ∧ st' = ⟨p.text, st.ty, st.ks⟩ := by
  rw [add7] at h; split at h
  · rename_i e; simp at h; exact ⟨e, h.symm⟩
  · simp at h
theorem add7_s {p : Tree} {o : Option Sx} {st st' : Sst} (h : add7 .s p o st = some st') : ∃ s, p.size ≤ 12 ∧ p.sty = some s ∧ st' = ⟨st.nm, some s, st.ks⟩ := by
  rw [add7, stLim] at h
  by_cases hp : p.size ≤ 12
  · rw [if_pos hp] at h
    cases hs : p.sty with
    | none => rw [hs] at h; simp at h
    | some s => rw [hs] at h; simp at h; exact ⟨s, hp, rfl, h.symm⟩
  · rw [if_neg hp] at h; simp at h
theorem addL_nil_inv {qs : List Tree} {os : List (Option Sx)} {st st' : Sst} (h : addL [] qs os st = some st') : qs = [] ∧ st' = st := by
  cases qs with
  | nil => cases os with
    | nil => simp [addL] at h; exact ⟨rfl, h.symm⟩
    | cons o os => simp [addL] at h
  | cons q qs => simp [addL] at h
theorem addL_cons_inv {g : Fg} {gs : List Fg} {qs : List Tree} {os : List (Option Sx)} {st st' : Sst} (h : addL (g :: gs) qs os st = some st') :
    ∃ p ps o os' st1, qs = p :: ps ∧ os = o :: os' ∧ add7 g p o st = some st1 ∧ addL gs ps os' st1 = some st' := by
  cases qs with
  | nil => simp [addL] at h
  | cons p ps => cases os with
    | nil => simp [addL] at h
    | cons o os =>
      rw [addL_cons] at h
      cases ha : add7 g p o st with
      | none => rw [ha] at h; simp at h
      | some st1 => rw [ha] at h; exact ⟨p, ps, o, os, st1, rfl, rfl, ha, h⟩
/-- What is gathered by the form of a head is an expression's. -/
theorem mkSx_ok {l : List UInt8} {f : List Fg} {qs : List Tree} {os : List (Option Sx)} {st : Sst} (hf : frm l = some f) (h : addL f qs os Sst.none = some st) :
    ∃ e, mkSx l st = some e ∧ e.head.toList = l ∧ e.atom = ByteArray.empty ∧ e.nm = st.nm ∧ e.ty = st.ty ∧ e.kids = st.ks := by
  rcases frm_cases hf with ⟨rfl, rfl⟩ | ⟨rfl, rfl⟩ | ⟨rfl, rfl⟩ | ⟨rfl, rfl⟩ | ⟨rfl, rfl⟩ | ⟨rfl, rfl⟩ | ⟨rfl, rfl⟩ | ⟨rfl, rfl⟩ | ⟨rfl, rfl⟩
  · obtain ⟨p1, ps1, o1, os1, st1, rfl, rfl, h1, h⟩ := addL_cons_inv h
    obtain ⟨p2, ps2, o2, os2, st2, rfl, rfl, h2, h⟩ := addL_cons_inv h
    obtain ⟨p3, ps3, o3, os3, st3, rfl, rfl, h3, h⟩ := addL_cons_inv h
    obtain ⟨rfl, rfl⟩ := addL_nil_inv h
    obtain ⟨_, rfl⟩ := add7_x h1
    obtain ⟨s, _, _, rfl⟩ := add7_s h2
    obtain ⟨k, _, rfl⟩ := add7_e h3
    exact ⟨.lam p1.text s k, by simp [mkSx, hLam_l, Sst.none], rfl, rfl, rfl, rfl, rfl⟩
  · obtain ⟨p1, ps1, o1, os1, st1, rfl, rfl, h1, h⟩ := addL_cons_inv h
    obtain ⟨p2, ps2, o2, os2, st2, rfl, rfl, h2, h⟩ := addL_cons_inv h
    obtain ⟨p3, ps3, o3, os3, st3, rfl, rfl, h3, h⟩ := addL_cons_inv h
    obtain ⟨rfl, rfl⟩ := addL_nil_inv h
    obtain ⟨d, _, rfl⟩ := add7_e h1
    obtain ⟨e, _, rfl⟩ := add7_e h2
    obtain ⟨k, _, rfl⟩ := add7_e h3
    exact ⟨.iff d e k, by simp [mkSx, hIf_l, Sst.none], rfl, rfl, rfl, rfl, rfl⟩
  · obtain ⟨p1, ps1, o1, os1, st1, rfl, rfl, h1, h⟩ := addL_cons_inv h
    obtain ⟨p2, ps2, o2, os2, st2, rfl, rfl, h2, h⟩ := addL_cons_inv h
    obtain ⟨rfl, rfl⟩ := addL_nil_inv h
    obtain ⟨d, _, rfl⟩ := add7_e h1
    obtain ⟨e, _, rfl⟩ := add7_e h2
    exact ⟨.app d e, by simp [mkSx, hApp_l, Sst.none], rfl, rfl, rfl, rfl, rfl⟩
  · obtain ⟨p1, ps1, o1, os1, st1, rfl, rfl, h1, h⟩ := addL_cons_inv h
    obtain ⟨p2, ps2, o2, os2, st2, rfl, rfl, h2, h⟩ := addL_cons_inv h
    obtain ⟨rfl, rfl⟩ := addL_nil_inv h
    obtain ⟨d, _, rfl⟩ := add7_e h1
    obtain ⟨e, _, rfl⟩ := add7_e h2
    exact ⟨.pair d e, by simp [mkSx, hPair_l, Sst.none], rfl, rfl, rfl, rfl, rfl⟩
  · obtain ⟨p1, ps1, o1, os1, st1, rfl, rfl, h1, h⟩ := addL_cons_inv h
    obtain ⟨rfl, rfl⟩ := addL_nil_inv h
    obtain ⟨d, _, rfl⟩ := add7_e h1
    exact ⟨.fst d, by simp [mkSx, hFst_l, Sst.none], rfl, rfl, rfl, rfl, rfl⟩
  · obtain ⟨p1, ps1, o1, os1, st1, rfl, rfl, h1, h⟩ := addL_cons_inv h
    obtain ⟨rfl, rfl⟩ := addL_nil_inv h
    obtain ⟨d, _, rfl⟩ := add7_e h1
    exact ⟨.snd d, by simp [mkSx, hSnd_l, Sst.none], rfl, rfl, rfl, rfl, rfl⟩
  · obtain ⟨p1, ps1, o1, os1, st1, rfl, rfl, h1, h⟩ := addL_cons_inv h
    obtain ⟨rfl, rfl⟩ := addL_nil_inv h
    obtain ⟨d, _, rfl⟩ := add7_e h1
    exact ⟨.put d, by simp [mkSx, hPut_l, Sst.none], rfl, rfl, rfl, rfl, rfl⟩
  · obtain ⟨rfl, rfl⟩ := addL_nil_inv h
    exact ⟨.get, by simp [mkSx, hGet_l, Sst.none], rfl, rfl, rfl, rfl, rfl⟩
  · obtain ⟨p1, ps1, o1, os1, st1, rfl, rfl, h1, h⟩ := addL_cons_inv h
    obtain ⟨rfl, rfl⟩ := addL_nil_inv h
    obtain ⟨s, _, _, rfl⟩ := add7_s h1
    exact ⟨.fail s, by simp [mkSx, hFail_l, Sst.none], rfl, rfl, rfl, rfl, rfl⟩
theorem text_more {h : Tree} {c : UInt8} {l : List UInt8} (e : h.text.toList = c :: l) : h = .atom ⟨(c :: l).toArray⟩ := by
  cases h with
  | atom s => rw [Tree.text] at e; rw [bytes_of_toList e]
  | node ps => rw [Tree.text, empty_toList] at e; simp at e
/-- A tree that is an expression is its tree. -/
theorem sx_tree_n : ∀ (n : Nat) (t : Tree) (e : Sx), t.wt ≤ n → t.sx = some e → t = e.tree := by
  intro n; induction n with
  | zero => intro t e h; have := wt_pos t; omega
  | succ n ih =>
    intro t e hn h
    cases t with
    | atom s =>
      rw [Tree.sx, atomSx] at h
      split at h
      · simp at h; subst h; rfl
      · split at h
        · simp at h; subst h; rfl
        · simp at h
    | node ps =>
      cases ps with
      | nil => rw [Tree.sx, Tree.sxs] at h; simp [sxParts] at h
      | cons q qs =>
        cases hf : frm q.text.toList with
        | none => rw [sx_none hf] at h; simp at h
        | some f =>
          rw [sx_some hf] at h
          cases ha : addL f qs (qs.map Tree.sx) Sst.none with
          | none => rw [ha] at h; simp at h
          | some st =>
            rw [ha] at h
            simp only [Option.bind_some] at h
            rw [Tree.wt] at hn
            rcases frm_cases hf with ⟨hl, rfl⟩ | ⟨hl, rfl⟩ | ⟨hl, rfl⟩ | ⟨hl, rfl⟩ | ⟨hl, rfl⟩ | ⟨hl, rfl⟩ | ⟨hl, rfl⟩ | ⟨hl, rfl⟩ | ⟨hl, rfl⟩
            · have hqt := hl
              rw [hl] at h
              rw [hLam_l] at h hqt
              obtain ⟨p1, ps1, o1, os1, st1, hq1, ho1, h1, ha⟩ := addL_cons_inv ha
              subst hq1
              rw [List.map_cons, List.cons.injEq] at ho1
              obtain ⟨hx1, rfl⟩ := add7_x h1
              rw [← ho1.2] at ha
              obtain ⟨p2, ps2, o2, os2, st2, hq2, ho2, h2, ha⟩ := addL_cons_inv ha
              subst hq2
              rw [List.map_cons, List.cons.injEq] at ho2
              obtain ⟨s2, hz2, hs2, rfl⟩ := add7_s h2
              rw [← ho2.2] at ha
              obtain ⟨p3, ps3, o3, os3, st3, hq3, ho3, h3, ha⟩ := addL_cons_inv ha
              subst hq3
              rw [List.map_cons, List.cons.injEq] at ho3
              obtain ⟨k3, hk3, rfl⟩ := add7_e h3
              rw [← ho3.2] at ha
              obtain ⟨rfl, rfl⟩ := addL_nil_inv ha
              simp only [Tree.wts] at hn
              have t1 : p1 = .atom p1.text := by
                cases p1 with
                | atom s => rfl
                | node ps => rw [Tree.text, empty_toList] at hx1; simp [nameB] at hx1
              have t2 := sty_tree p2 s2 hs2
              have t3 := ih p3 k3 (by omega) (by rw [ho3.1, hk3])
              simp [mkSx, Sst.none] at h
              subst h
              rw [text_more hqt, t1, t2, t3]; rfl
            · have hqt := hl
              rw [hl] at h
              rw [hIf_l] at h hqt
              obtain ⟨p1, ps1, o1, os1, st1, hq1, ho1, h1, ha⟩ := addL_cons_inv ha
              subst hq1
              rw [List.map_cons, List.cons.injEq] at ho1
              obtain ⟨k1, hk1, rfl⟩ := add7_e h1
              rw [← ho1.2] at ha
              obtain ⟨p2, ps2, o2, os2, st2, hq2, ho2, h2, ha⟩ := addL_cons_inv ha
              subst hq2
              rw [List.map_cons, List.cons.injEq] at ho2
              obtain ⟨k2, hk2, rfl⟩ := add7_e h2
              rw [← ho2.2] at ha
              obtain ⟨p3, ps3, o3, os3, st3, hq3, ho3, h3, ha⟩ := addL_cons_inv ha
              subst hq3
              rw [List.map_cons, List.cons.injEq] at ho3
              obtain ⟨k3, hk3, rfl⟩ := add7_e h3
              rw [← ho3.2] at ha
              obtain ⟨rfl, rfl⟩ := addL_nil_inv ha
              simp only [Tree.wts] at hn
              have t1 := ih p1 k1 (by omega) (by rw [ho1.1, hk1])
              have t2 := ih p2 k2 (by omega) (by rw [ho2.1, hk2])
              have t3 := ih p3 k3 (by omega) (by rw [ho3.1, hk3])
              simp [mkSx, Sst.none] at h
              subst h
              rw [text_more hqt, t1, t2, t3]; rfl
            · have hqt := hl
              rw [hl] at h
              rw [hApp_l] at h hqt
              obtain ⟨p1, ps1, o1, os1, st1, hq1, ho1, h1, ha⟩ := addL_cons_inv ha
              subst hq1
              rw [List.map_cons, List.cons.injEq] at ho1
              obtain ⟨k1, hk1, rfl⟩ := add7_e h1
              rw [← ho1.2] at ha
              obtain ⟨p2, ps2, o2, os2, st2, hq2, ho2, h2, ha⟩ := addL_cons_inv ha
              subst hq2
              rw [List.map_cons, List.cons.injEq] at ho2
              obtain ⟨k2, hk2, rfl⟩ := add7_e h2
              rw [← ho2.2] at ha
              obtain ⟨rfl, rfl⟩ := addL_nil_inv ha
              simp only [Tree.wts] at hn
              have t1 := ih p1 k1 (by omega) (by rw [ho1.1, hk1])
              have t2 := ih p2 k2 (by omega) (by rw [ho2.1, hk2])
              simp [mkSx, Sst.none] at h
              subst h
              rw [text_more hqt, t1, t2]; rfl
            · have hqt := hl
              rw [hl] at h
              rw [hPair_l] at h hqt
              obtain ⟨p1, ps1, o1, os1, st1, hq1, ho1, h1, ha⟩ := addL_cons_inv ha
              subst hq1
              rw [List.map_cons, List.cons.injEq] at ho1
              obtain ⟨k1, hk1, rfl⟩ := add7_e h1
              rw [← ho1.2] at ha
              obtain ⟨p2, ps2, o2, os2, st2, hq2, ho2, h2, ha⟩ := addL_cons_inv ha
              subst hq2
              rw [List.map_cons, List.cons.injEq] at ho2
              obtain ⟨k2, hk2, rfl⟩ := add7_e h2
              rw [← ho2.2] at ha
              obtain ⟨rfl, rfl⟩ := addL_nil_inv ha
              simp only [Tree.wts] at hn
              have t1 := ih p1 k1 (by omega) (by rw [ho1.1, hk1])
              have t2 := ih p2 k2 (by omega) (by rw [ho2.1, hk2])
              simp [mkSx, Sst.none] at h
              subst h
              rw [text_more hqt, t1, t2]; rfl
            · have hqt := hl
              rw [hl] at h
              rw [hFst_l] at h hqt
              obtain ⟨p1, ps1, o1, os1, st1, hq1, ho1, h1, ha⟩ := addL_cons_inv ha
              subst hq1
              rw [List.map_cons, List.cons.injEq] at ho1
              obtain ⟨k1, hk1, rfl⟩ := add7_e h1
              rw [← ho1.2] at ha
              obtain ⟨rfl, rfl⟩ := addL_nil_inv ha
              simp only [Tree.wts] at hn
              have t1 := ih p1 k1 (by omega) (by rw [ho1.1, hk1])
              simp [mkSx, Sst.none] at h
              subst h
              rw [text_more hqt, t1]; rfl
            · have hqt := hl
              rw [hl] at h
              rw [hSnd_l] at h hqt
              obtain ⟨p1, ps1, o1, os1, st1, hq1, ho1, h1, ha⟩ := addL_cons_inv ha
              subst hq1
              rw [List.map_cons, List.cons.injEq] at ho1
              obtain ⟨k1, hk1, rfl⟩ := add7_e h1
              rw [← ho1.2] at ha
              obtain ⟨rfl, rfl⟩ := addL_nil_inv ha
              simp only [Tree.wts] at hn
              have t1 := ih p1 k1 (by omega) (by rw [ho1.1, hk1])
              simp [mkSx, Sst.none] at h
              subst h
              rw [text_more hqt, t1]; rfl
            · have hqt := hl
              rw [hl] at h
              rw [hPut_l] at h hqt
              obtain ⟨p1, ps1, o1, os1, st1, hq1, ho1, h1, ha⟩ := addL_cons_inv ha
              subst hq1
              rw [List.map_cons, List.cons.injEq] at ho1
              obtain ⟨k1, hk1, rfl⟩ := add7_e h1
              rw [← ho1.2] at ha
              obtain ⟨rfl, rfl⟩ := addL_nil_inv ha
              simp only [Tree.wts] at hn
              have t1 := ih p1 k1 (by omega) (by rw [ho1.1, hk1])
              simp [mkSx, Sst.none] at h
              subst h
              rw [text_more hqt, t1]; rfl
            · have hqt := hl
              rw [hl] at h
              rw [hGet_l] at h hqt
              obtain ⟨rfl, rfl⟩ := addL_nil_inv ha
              simp only [Tree.wts] at hn
              simp [mkSx, Sst.none] at h
              subst h
              rw [text_more hqt]; rfl
            · have hqt := hl
              rw [hl] at h
              rw [hFail_l] at h hqt
              obtain ⟨p1, ps1, o1, os1, st1, hq1, ho1, h1, ha⟩ := addL_cons_inv ha
              subst hq1
              rw [List.map_cons, List.cons.injEq] at ho1
              obtain ⟨s1, hz1, hs1, rfl⟩ := add7_s h1
              rw [← ho1.2] at ha
              obtain ⟨rfl, rfl⟩ := addL_nil_inv ha
              simp only [Tree.wts] at hn
              have t1 := sty_tree p1 s1 hs1
              simp [mkSx, Sst.none] at h
              subst h
              rw [text_more hqt, t1]; rfl
theorem sx_tree {t : Tree} {e : Sx} (h : t.sx = some e) : t = e.tree := sx_tree_n _ t e (Nat.le_refl _) h
/-- What a text is as a source expression. -/
def readSx (s : ByteArray) : Option Sx :=
  match parse s with
  | some t => if t.size ≤ 150 then t.sx else none
  | none => none
/-- The same as a tree. -/
def sxTree (s : ByteArray) : Option Tree :=
  match parse s with
  | some t => if t.sx.isSome ∧ t.size ≤ 150 then some t else none
  | none => none
theorem sxTree_eq (s : ByteArray) : sxTree s = (readSx s).map Sx.tree := by
  unfold sxTree readSx
  cases hp : parse s with
  | none => rfl
  | some t =>
    simp only
    by_cases h12 : t.size ≤ 150
    · rw [if_pos h12]
      cases ht : t.sx with
      | none => rw [if_neg (by simp)]; rfl
      | some x => rw [if_pos ⟨rfl, h12⟩, Option.map_some, ← sx_tree ht]
    · rw [if_neg (fun h => h12 h.2), if_neg h12]; rfl
theorem readSx_inv {s : ByteArray} {e : Sx} (h : readSx s = some e) : parse s = some e.tree ∧ e.tree.size ≤ 150 ∧ e.tree.sx = some e := by
  unfold readSx at h
  cases hp : parse s with
  | none => rw [hp] at h; simp at h
  | some t =>
    rw [hp] at h; simp only at h
    split at h
    · rename_i h12
      have ht := sx_tree h
      rw [ht] at h h12 ⊢
      exact ⟨rfl, h12, h⟩
    · simp at h
theorem sx_go {q : Tree} {qs : List Tree} {f : List Fg} (h : frm q.text.toList = some f) {R : Option Sst} (hR : addL f qs (qs.map Tree.sx) Sst.none = R) : (Tree.node (q :: qs)).sx = R.bind (mkSx q.text.toList) := by rw [sx_some h, hR]
theorem sx_isSome {q : Tree} {qs : List Tree} {f : List Fg} (h : frm q.text.toList = some f) : (Tree.node (q :: qs)).sx.isSome = (addL f qs (qs.map Tree.sx) Sst.none).isSome := by
  rw [sx_some h]
  cases ha : addL f qs (qs.map Tree.sx) Sst.none with
  | none => rfl
  | some st => obtain ⟨e, he, _⟩ := mkSx_ok h ha; show (mkSx _ st).isSome = true; rw [he]; rfl
theorem text_le (p : Tree) : p.text.size ≤ p.write.length := by
  cases p with
  | atom s => show s.size ≤ s.data.toList.length; rw [size_toList, Go.ByteArray.toList_eq]; exact Nat.le_refl _
  | node ps => exact Nat.zero_le _
theorem part_le {ps : List Tree} {i : Nat} {p : Tree} (h : ps[i]? = some p) : p.write.length ≤ (Tree.node ps).write.length := by
  have := join_part ps i p h
  rw [write_node]; simp; omega
theorem frm_len {l : List UInt8} {f : List Fg} (h : frm l = some f) : f.length ≤ 3 := by
  rcases frm_cases h with ⟨_, e⟩ | ⟨_, e⟩ | ⟨_, e⟩ | ⟨_, e⟩ | ⟨_, e⟩ | ⟨_, e⟩ | ⟨_, e⟩ | ⟨_, e⟩ | ⟨_, e⟩ <;> rw [e] <;> simp
theorem frm_nil {l : List UInt8} (h : frm l = some []) : l = [103, 101, 116] := by
  rcases frm_cases h with ⟨_, e⟩ | ⟨_, e⟩ | ⟨_, e⟩ | ⟨_, e⟩ | ⟨_, e⟩ | ⟨_, e⟩ | ⟨_, e⟩ | ⟨e, _⟩ | ⟨_, e⟩
  all_goals first | (rw [e, hGet_l]) | simp at e
end Go.Proofs.YtgogoekfidbpdaaDoor

namespace Go.Proofs.YtgogoekfidbpdaaDoor
open Go.RowKit

/-- The free name that an atom is. -/
def atF (bd : List ByteArray) (a : ByteArray) : List ByteArray := if nameB a.toList = true ∧ hasB bd a.toList = false then [a] else []
/-- The names that stand free, where some are bound. -/
def Sx.free : Sx → List ByteArray → List ByteArray
  | .name a, bd => atF bd a
  | .bit a, bd => atF bd a
  | .lam x _ e, bd => e.free (bd ++ [x])
  | .app d e, bd => d.free bd ++ e.free bd
  | .iff d e g, bd => d.free bd ++ (e.free bd ++ g.free bd)
  | .pair d e, bd => d.free bd ++ e.free bd
  | .fst e, bd => e.free bd
  | .snd e, bd => e.free bd
  | .get, _ => []
  | .put e, bd => e.free bd
  | .fail _, _ => []
theorem free7_le (e : Sx) : ∀ bd, (e.free bd).length ≤ e.tree.wt := by
  induction e with
  | name a => intro bd; simp only [Sx.free, atF, Sx.tree, Tree.wt]; split <;> simp
  | bit a => intro bd; simp only [Sx.free, atF, Sx.tree, Tree.wt]; split <;> simp
  | lam x s e ih => intro bd; have := ih (bd ++ [x]); simp only [Sx.free, Sx.tree, Tree.wt, Tree.wts]; omega
  | app d e ihd ihe => intro bd; have := ihd bd; have := ihe bd; simp only [Sx.free, Sx.tree, Tree.wt, Tree.wts, List.length_append]; omega
  | iff d e g ihd ihe ihg => intro bd; have := ihd bd; have := ihe bd; have := ihg bd; simp only [Sx.free, Sx.tree, Tree.wt, Tree.wts, List.length_append]; omega
  | pair d e ihd ihe => intro bd; have := ihd bd; have := ihe bd; simp only [Sx.free, Sx.tree, Tree.wt, Tree.wts, List.length_append]; omega
  | fst e ih => intro bd; have := ih bd; simp only [Sx.free, Sx.tree, Tree.wt, Tree.wts]; omega
  | snd e ih => intro bd; have := ih bd; simp only [Sx.free, Sx.tree, Tree.wt, Tree.wts]; omega
  | get => intro bd; simp [Sx.free]
  | put e ih => intro bd; have := ih bd; simp only [Sx.free, Sx.tree, Tree.wt, Tree.wts]; omega
  | fail s => intro bd; simp [Sx.free]

end Go.Proofs.YtgogoekfidbpdaaDoor

namespace Go.Proofs.YtgogoekfidbpdaaDoor
open Go.RowKit

/-- Atoms are what they are kept as. -/
def Sx.wf : Sx → Prop
  | .name a => nameB a.toList = true
  | .bit a => nameB a.toList = false
  | .lam x _ e => nameB x.toList = true ∧ e.wf
  | .app d e => d.wf ∧ e.wf
  | .iff d e g => d.wf ∧ e.wf ∧ g.wf
  | .pair d e => d.wf ∧ e.wf
  | .fst e => e.wf
  | .snd e => e.wf
  | .get => True
  | .put e => e.wf
  | .fail _ => True
theorem sx_wf_n : ∀ (n : Nat) (t : Tree) (e : Sx), t.wt ≤ n → t.sx = some e → e.wf := by
  intro n; induction n with
  | zero => intro t e h; have := wt_pos t; omega
  | succ n ih =>
    intro t e hn h
    cases t with
    | atom s =>
      rw [Tree.sx, atomSx] at h
      split at h
      · rename_i hb
        simp at h; subst h
        show nameB s.toList = false
        rcases hb with hb | hb <;> rw [hb] <;> rfl
      · split at h
        · rename_i hb; simp at h; subst h; exact hb
        · simp at h
    | node ps =>
      cases ps with
      | nil => rw [Tree.sx, Tree.sxs] at h; simp [sxParts] at h
      | cons q qs =>
        cases hf : frm q.text.toList with
        | none => rw [sx_none hf] at h; simp at h
        | some f =>
          rw [sx_some hf] at h
          cases ha : addL f qs (qs.map Tree.sx) Sst.none with
          | none => rw [ha] at h; simp at h
          | some st =>
            rw [ha] at h
            simp only [Option.bind_some] at h
            rw [Tree.wt] at hn
            -- each part is well formed
            have key : ∀ (f : List Fg) (qs : List Tree) (st st' : Sst), Tree.wts qs ≤ n → (∀ k ∈ st.ks, k.wf) → (st.nm = ByteArray.empty ∨ nameB st.nm.toList = true) → addL f qs (qs.map Tree.sx) st = some st' → (∀ k ∈ st'.ks, k.wf) ∧ (st'.nm = ByteArray.empty ∨ nameB st'.nm.toList = true) := by
              intro f; induction f with
              | nil => intro qs st st' _ h1 h2 h3; obtain ⟨_, rfl⟩ := addL_nil_inv h3; exact ⟨h1, h2⟩
              | cons g gs ihf =>
                intro qs st st' hq h1 h2 h3
                obtain ⟨p, ps, o, os, st1, rfl, ho, ha1, h4⟩ := addL_cons_inv h3
                rw [List.map_cons, List.cons.injEq] at ho
                rw [← ho.2] at h4
                simp only [Tree.wts] at hq
                refine ihf ps st1 st' (by omega) ?_ ?_ h4
                · cases g with
                  | e =>
                    obtain ⟨k, hk, rfl⟩ := add7_e ha1
                    intro k' hk'
                    rcases List.mem_append.1 hk' with hk' | hk'
                    · exact h1 k' hk'
                    · simp at hk'; subst hk'; exact ih p _ (by omega) (by rw [ho.1, hk])
                  | x => obtain ⟨_, rfl⟩ := add7_x ha1; exact h1
                  | s => obtain ⟨_, _, _, rfl⟩ := add7_s ha1; exact h1
                · cases g with
                  | e => obtain ⟨k, hk, rfl⟩ := add7_e ha1; exact h2
                  | x => obtain ⟨hx, rfl⟩ := add7_x ha1; exact Or.inr hx
                  | s => obtain ⟨_, _, _, rfl⟩ := add7_s ha1; exact h2
            have hw := wt_pos q
            simp only [Tree.wts] at hn
            obtain ⟨k1, k2⟩ := key f qs Sst.none st (by omega) (by simp [Sst.none]) (Or.inl rfl) ha
            have hlam : ∀ x s e1, mkSx q.text.toList st = some (.lam x s e1) → nameB x.toList = true := by
              intro x s e1 hm
              rcases frm_cases hf with ⟨hl, rfl⟩ | ⟨hl, rfl⟩ | ⟨hl, rfl⟩ | ⟨hl, rfl⟩ | ⟨hl, rfl⟩ | ⟨hl, rfl⟩ | ⟨hl, rfl⟩ | ⟨hl, rfl⟩ | ⟨hl, rfl⟩
              · obtain ⟨p1, ps1, o1, os1, st1, rfl, _, h1, h4⟩ := addL_cons_inv ha
                obtain ⟨p2, ps2, o2, os2, st2, rfl, _, h2, h4⟩ := addL_cons_inv h4
                obtain ⟨p3, ps3, o3, os3, st3, rfl, _, h3, h4⟩ := addL_cons_inv h4
                obtain ⟨rfl, rfl⟩ := addL_nil_inv h4
                obtain ⟨hx, rfl⟩ := add7_x h1
                obtain ⟨s', _, _, rfl⟩ := add7_s h2
                obtain ⟨k, _, rfl⟩ := add7_e h3
                rw [hl, hLam_l] at hm
                simp [mkSx, Sst.none] at hm
                rw [← hm.1]; exact hx
              all_goals
                obtain ⟨e2, he2, _, _, _, _, _⟩ := mkSx_ok hf ha
                rw [hl] at hm
                simp only [hIf_l, hApp_l, hPair_l, hFst_l, hSnd_l, hPut_l, hGet_l, hFail_l] at hm
                unfold mkSx at hm
                split at hm <;> simp at hm
            obtain ⟨e2, he2, h1, h2, h3, h4, h5⟩ := mkSx_ok hf ha
            rw [he2] at h
            simp at h; subst h
            rw [← h5] at k1
            cases e2 with
            | name a => rw [show (Sx.name a).head = hName from rfl, hName_l] at h1; rw [← h1] at hf; simp [frm] at hf
            | bit a => rw [show (Sx.bit a).head = hBit from rfl, hBit_l] at h1; rw [← h1] at hf; simp [frm] at hf
            | lam x s e1 => exact ⟨hlam x s e1 he2, k1 e1 (by simp [Sx.kids])⟩
            | app d e1 => exact ⟨k1 d (by simp [Sx.kids]), k1 e1 (by simp [Sx.kids])⟩
            | iff d e1 g => exact ⟨k1 d (by simp [Sx.kids]), k1 e1 (by simp [Sx.kids]), k1 g (by simp [Sx.kids])⟩
            | pair d e1 => exact ⟨k1 d (by simp [Sx.kids]), k1 e1 (by simp [Sx.kids])⟩
            | fst e1 => exact k1 e1 (by simp [Sx.kids])
            | snd e1 => exact k1 e1 (by simp [Sx.kids])
            | get => trivial
            | put e1 => exact k1 e1 (by simp [Sx.kids])
            | fail s => trivial
theorem sx_wf {t : Tree} {e : Sx} (h : t.sx = some e) : e.wf := sx_wf_n _ t e (Nat.le_refl _) h
/-- The names that stand free, in order, as often as they do, by the program. -/
def Sx.fnm : Sx → List ByteArray
  | .name a => [a]
  | .bit _ => []
  | .lam x _ e => e.fnm.filter fun y => !(y.toList == x.toList)
  | .app d e => d.fnm ++ e.fnm
  | .iff d e g => d.fnm ++ (e.fnm ++ g.fnm)
  | .pair d e => d.fnm ++ e.fnm
  | .fst e => e.fnm
  | .snd e => e.fnm
  | .get => []
  | .put e => e.fnm
  | .fail _ => []
theorem hasB_append (l : List ByteArray) (x : ByteArray) (s : List UInt8) : hasB (l ++ [x]) s = (hasB l s || x.toList == s) := by
  induction l with
  | nil => rw [List.nil_append, hasB_cons]; simp [hasB]
  | cons y l ih => rw [List.cons_append, hasB_cons, hasB_cons, ih, Bool.or_assoc]
theorem free_fnm (e : Sx) : e.wf → ∀ bd, e.free bd = e.fnm.filter fun y => !hasB bd y.toList := by
  induction e with
  | name a =>
    intro h bd
    have h' : nameB a.toList = true := h
    simp only [Sx.free, atF, Sx.fnm, h', true_and]
    cases hb : hasB bd a.toList <;> simp [hb]
  | bit a =>
    intro h bd
    have h' : nameB a.toList = false := h
    simp [Sx.free, atF, Sx.fnm, h']
  | lam x s e ih =>
    intro h bd
    rw [Sx.free, Sx.fnm, ih h.2, List.filter_filter]
    congr 1; funext y
    rw [hasB_append]
    have hc : (x.toList == y.toList) = (y.toList == x.toList) := by rw [Bool.eq_iff_iff, beq_iff_eq, beq_iff_eq]; exact ⟨Eq.symm, Eq.symm⟩
    rw [hc, Bool.not_or]
  | app d e ihd ihe => intro h bd; rw [Sx.free, Sx.fnm, ihd h.1, ihe h.2, List.filter_append]
  | iff d e g ihd ihe ihg => intro h bd; rw [Sx.free, Sx.fnm, ihd h.1, ihe h.2.1, ihg h.2.2, List.filter_append, List.filter_append]
  | pair d e ihd ihe => intro h bd; rw [Sx.free, Sx.fnm, ihd h.1, ihe h.2, List.filter_append]
  | fst e ih => intro h bd; rw [Sx.free, Sx.fnm, ih h]
  | snd e ih => intro h bd; rw [Sx.free, Sx.fnm, ih h]
  | get => intro _ bd; rfl
  | put e ih => intro h bd; rw [Sx.free, Sx.fnm, ih h]
  | fail s => intro _ bd; rfl
theorem free_nil {e : Sx} (h : e.wf) : e.free [] = e.fnm := by
  rw [free_fnm e h]
  apply List.filter_eq_self.2
  intro a _; rfl
end Go.Proofs.YtgogoekfidbpdaaDoor

namespace Go.Proofs.YtgogoekfidbpdaaDoor
open Go.RowKit

/-- A type with few atoms. -/
def lim12 : Option STy → Option STy
  | some s => if s.n ≤ 12 then some s else none
  | none => none
/-- Equal texts. -/
def eqT (a b : STy) : Bool := a.tree.txt.toList == b.tree.txt.toList
/-- The innermost name that is equal. -/
def tLook : List (ByteArray × STy) → List UInt8 → Option STy
  | [], _ => none
  | (x, s) :: env, l => if x.toList == l then some s else tLook env l
/-- The type of an expression from those of its parts. -/
def Sx.tfrom (e : Sx) (ts : List STy) (env : List (ByteArray × STy)) : Option STy :=
  match e, ts with
  | .name a, _ => tLook env a.toList
  | .bit _, _ => some .bit
  | .lam _ s _, [t] => some (.fn s t)
  | .app _ _, [.fn a b, c] => if eqT a c then some b else none
  | .iff _ _ _, [.bit, a, b] => if eqT a b then some a else none
  | .pair _ _, [a, b] => some (.pair a b)
  | .fst _, [.pair a _] => some a
  | .snd _, [.pair _ b] => some b
  | .get, _ => some .bit
  | .put _, [.bit] => some .bit
  | .fail s, _ => some s
  | _, _ => none
/-- The names around the parts. -/
def Sx.inside (e : Sx) (env : List (ByteArray × STy)) : List (ByteArray × STy) := match e with
  | .lam x s _ => (x, s) :: env
  | _ => env
def Sx.typ : Sx → List (ByteArray × STy) → Option STy
  | .name a, env => lim12 (tLook env a.toList)
  | .bit _, _ => some .bit
  | .lam x s e, env => match e.typ ((x, s) :: env) with
    | some t => lim12 (some (.fn s t))
    | none => none
  | .app d e, env => match d.typ env, e.typ env with
    | some (.fn a b), some c => if eqT a c then lim12 (some b) else none
    | _, _ => none
  | .iff d e g, env => match d.typ env, e.typ env, g.typ env with
    | some .bit, some a, some b => if eqT a b then lim12 (some a) else none
    | _, _, _ => none
  | .pair d e, env => match d.typ env, e.typ env with
    | some a, some b => lim12 (some (.pair a b))
    | _, _ => none
  | .fst e, env => match e.typ env with
    | some (.pair a _) => lim12 (some a)
    | _ => none
  | .snd e, env => match e.typ env with
    | some (.pair _ b) => lim12 (some b)
    | _ => none
  | .get, _ => some .bit
  | .put e, env => match e.typ env with
    | some .bit => some .bit
    | _ => none
  | .fail s, _ => lim12 (some s)
theorem lim12_n {o : Option STy} {s : STy} (h : lim12 o = some s) : s.n ≤ 12 ∧ o = some s := by
  cases o with
  | none => simp [lim12] at h
  | some t =>
    rw [lim12] at h
    split at h
    · simp at h; subst h; exact ⟨by assumption, rfl⟩
    · simp at h
theorem lim12_small {s : STy} (h : s.n ≤ 12) : lim12 (some s) = some s := by rw [lim12, if_pos h]
theorem lim12_none : lim12 none = none := rfl
/-- The types of parts. -/
def kidT : List Sx → List (ByteArray × STy) → Option (List STy)
  | [], _ => some []
  | e :: es, env => match e.typ env with
    | none => none
    | some t => match kidT es env with
      | none => none
      | some ts => some (t :: ts)
theorem typ_kids (e : Sx) (env : List (ByteArray × STy)) : e.typ env = match kidT e.kids (e.inside env) with
    | some ts => lim12 (e.tfrom ts env)
    | none => none := by
  cases e with
  | name a => rfl
  | bit a => rfl
  | lam x s e =>
    simp only [Sx.kids, Sx.inside, kidT, Sx.typ]
    cases e.typ ((x, s) :: env) <;> rfl
  | app d e =>
    simp only [Sx.kids, Sx.inside, kidT, Sx.typ]
    cases hd : d.typ env with
    | none => cases e.typ env <;> rfl
    | some a =>
      cases he : e.typ env with
      | none => cases a <;> rfl
      | some c =>
        cases a with
        | bit => rfl
        | fn a b =>
          simp only [Sx.tfrom]
          cases eqT a c <;> rfl
        | pair a b => rfl
  | iff d e g =>
    simp only [Sx.kids, Sx.inside, kidT, Sx.typ]
    cases hd : d.typ env with
    | none => rfl
    | some a =>
      cases he : e.typ env with
      | none => cases a <;> rfl
      | some c =>
        cases hg : g.typ env with
        | none => cases a <;> rfl
        | some k =>
          cases a with
          | bit =>
            simp only [Sx.tfrom]
            cases eqT c k <;> rfl
          | fn a b => rfl
          | pair a b => rfl
  | pair d e =>
    simp only [Sx.kids, Sx.inside, kidT, Sx.typ]
    cases hd : d.typ env with
    | none => rfl
    | some a => cases he : e.typ env <;> rfl
  | fst e =>
    simp only [Sx.kids, Sx.inside, kidT, Sx.typ]
    cases he : e.typ env with
    | none => rfl
    | some a => cases a <;> rfl
  | snd e =>
    simp only [Sx.kids, Sx.inside, kidT, Sx.typ]
    cases he : e.typ env with
    | none => rfl
    | some a => cases a <;> rfl
  | get => rfl
  | put e =>
    simp only [Sx.kids, Sx.inside, kidT, Sx.typ]
    cases he : e.typ env with
    | none => rfl
    | some a => cases a <;> rfl
  | fail s => rfl
theorem typ_n {e : Sx} {env : List (ByteArray × STy)} {s : STy} (h : e.typ env = some s) : s.n ≤ 12 := by
  rw [typ_kids] at h
  cases hk : kidT e.kids (e.inside env) with
  | none => rw [hk] at h; simp at h
  | some ts => rw [hk] at h; exact (lim12_n h).1
theorem kidT_step {l : List Sx} {i : Nat} {k : Sx} (h : l[i]? = some k) (env : List (ByteArray × STy)) : kidT (l.drop i) env = match k.typ env with
    | none => none
    | some t => match kidT (l.drop (i + 1)) env with
      | none => none
      | some ts => some (t :: ts) := by
  have e := List.getElem?_eq_some_iff.1 h
  rw [List.drop_eq_getElem_cons e.1, e.2, kidT]
theorem kidT_len : ∀ (l : List Sx) (env : List (ByteArray × STy)) (ts : List STy), kidT l env = some ts → ts.length = l.length ∧ ∀ t ∈ ts, t.n ≤ 12
  | [], env, ts, h => by simp [kidT] at h; subst h; simp
  | e :: es, env, ts, h => by
    rw [kidT] at h
    cases he : e.typ env with
    | none => rw [he] at h; simp at h
    | some t =>
      rw [he] at h
      simp only at h
      cases hk : kidT es env with
      | none => rw [hk] at h; simp at h
      | some ts' =>
        rw [hk] at h
        simp at h; subst h
        obtain ⟨h1, h2⟩ := kidT_len es env ts' hk
        refine ⟨by simp [h1], fun x hx => ?_⟩
        rcases List.mem_cons.1 hx with rfl | hx
        · exact typ_n he
        · exact h2 x hx
/-- What SourceType answers. -/
def stX (s : ByteArray) : Option STy := match readSx s with
  | some e => e.typ []
  | none => none
end Go.Proofs.YtgogoekfidbpdaaDoor

namespace Go.Proofs.YtgogoekfidbpdaaDoor
open Go.RowKit

def Sx.an : Sx → Prop
  | .name _ => True
  | .bit _ => True
  | .lam _ s e => s.n ≤ 12 ∧ e.an
  | .app d e => d.an ∧ e.an
  | .iff d e g => d.an ∧ e.an ∧ g.an
  | .pair d e => d.an ∧ e.an
  | .fst e => e.an
  | .snd e => e.an
  | .get => True
  | .put e => e.an
  | .fail s => s.n ≤ 12
theorem sx_an_n : ∀ (n : Nat) (t : Tree) (e : Sx), t.wt ≤ n → t.sx = some e → e.an := by
  intro n; induction n with
  | zero => intro t e h; have := wt_pos t; omega
  | succ n ih =>
    intro t e hn h
    cases t with
    | atom s =>
      rw [Tree.sx, atomSx] at h
      split at h
      · simp at h; subst h; trivial
      · split at h
        · simp at h; subst h; trivial
        · simp at h
    | node ps =>
      cases ps with
      | nil => rw [Tree.sx, Tree.sxs] at h; simp [sxParts] at h
      | cons q qs =>
        cases hf : frm q.text.toList with
        | none => rw [sx_none hf] at h; simp at h
        | some f =>
          rw [sx_some hf] at h
          cases ha : addL f qs (qs.map Tree.sx) Sst.none with
          | none => rw [ha] at h; simp at h
          | some st =>
            rw [ha] at h
            simp only [Option.bind_some] at h
            rw [Tree.wt] at hn
            -- each part is well formed
            have key : ∀ (f : List Fg) (qs : List Tree) (st st' : Sst), Tree.wts qs ≤ n → (∀ k ∈ st.ks, k.an) → (∀ s, st.ty = some s → s.n ≤ 12) → addL f qs (qs.map Tree.sx) st = some st' → (∀ k ∈ st'.ks, k.an) ∧ (∀ s, st'.ty = some s → s.n ≤ 12) := by
              intro f; induction f with
              | nil => intro qs st st' _ h1 h2 h3; obtain ⟨_, rfl⟩ := addL_nil_inv h3; exact ⟨h1, h2⟩
              | cons g gs ihf =>
                intro qs st st' hq h1 h2 h3
                obtain ⟨p, ps, o, os, st1, rfl, ho, ha1, h4⟩ := addL_cons_inv h3
                rw [List.map_cons, List.cons.injEq] at ho
                rw [← ho.2] at h4
                simp only [Tree.wts] at hq
                refine ihf ps st1 st' (by omega) ?_ ?_ h4
                · cases g with
                  | e =>
                    obtain ⟨k, hk, rfl⟩ := add7_e ha1
                    intro k' hk'
                    rcases List.mem_append.1 hk' with hk' | hk'
                    · exact h1 k' hk'
                    · simp at hk'; subst hk'; exact ih p _ (by omega) (by rw [ho.1, hk])
                  | x => obtain ⟨_, rfl⟩ := add7_x ha1; exact h1
                  | s => obtain ⟨_, _, _, rfl⟩ := add7_s ha1; exact h1
                · cases g with
                  | e => obtain ⟨k, hk, rfl⟩ := add7_e ha1; exact h2
                  | x => obtain ⟨hx, rfl⟩ := add7_x ha1; exact h2
                  | s =>
                    obtain ⟨s, hs, hs2, rfl⟩ := add7_s ha1
                    intro s' e'
                    simp at e'; subst e'
                    have := sty_tree p s hs2
                    rw [← tree_n s, ← this]; exact hs
            have hw := wt_pos q
            simp only [Tree.wts] at hn
            obtain ⟨k1, k2⟩ := key f qs Sst.none st (by omega) (by simp [Sst.none]) (by intro s e; simp [Sst.none] at e) ha
            obtain ⟨e2, he2, h1, h2, h3, h4, h5⟩ := mkSx_ok hf ha
            rw [he2] at h
            simp at h; subst h
            rw [← h5] at k1
            rw [← h4] at k2
            cases e2 with
            | name a => trivial
            | bit a => trivial
            | lam x s e1 => exact ⟨k2 s rfl, k1 e1 (by simp [Sx.kids])⟩
            | app d e1 => exact ⟨k1 d (by simp [Sx.kids]), k1 e1 (by simp [Sx.kids])⟩
            | iff d e1 g => exact ⟨k1 d (by simp [Sx.kids]), k1 e1 (by simp [Sx.kids]), k1 g (by simp [Sx.kids])⟩
            | pair d e1 => exact ⟨k1 d (by simp [Sx.kids]), k1 e1 (by simp [Sx.kids])⟩
            | fst e1 => exact k1 e1 (by simp [Sx.kids])
            | snd e1 => exact k1 e1 (by simp [Sx.kids])
            | get => trivial
            | put e1 => exact k1 e1 (by simp [Sx.kids])
            | fail s => exact k2 s rfl
theorem sx_an {t : Tree} {e : Sx} (h : t.sx = some e) : e.an := sx_an_n _ t e (Nat.le_refl _) h
theorem an_kid {e k : Sx} {i : Nat} (h : e.an) (hk : e.kids[i]? = some k) : k.an := by
  have hm := List.mem_of_getElem? hk
  cases e <;> simp [Sx.kids] at hm <;> simp only [Sx.an] at h
  all_goals first | (subst hm; first | exact h | exact h.2) | (rcases hm with rfl | rfl; exact h.1; exact h.2) | (rcases hm with rfl | rfl | rfl; exact h.1; exact h.2.1; exact h.2.2)
theorem tLook_n : ∀ {env : List (ByteArray × STy)} {l : List UInt8} {s : STy}, (∀ x ∈ env, x.2.n ≤ 12) → tLook env l = some s → s.n ≤ 12
  | [], _, _, _, h => by simp [tLook] at h
  | (x, t) :: env, l, s, hn, h => by
    rw [tLook] at h
    split at h
    · simp at h; subst h; exact hn (x, t) (by simp)
    · exact tLook_n (fun y hy => hn y (by simp [hy])) h
theorem tfrom_n {e : Sx} {ts : List STy} {env : List (ByteArray × STy)} {s : STy} (ha : e.an) (hn : ∀ x ∈ env, x.2.n ≤ 12) (ht : ∀ t ∈ ts, t.n ≤ 12) (h : e.tfrom ts env = some s) : s.n ≤ 25 := by
  unfold Sx.tfrom at h
  split at h
  · have := tLook_n hn h; omega
  · simp at h; subst h; simp [STy.n]
  · simp at h; subst h; simp only [STy.n]; simp only [Sx.an] at ha; have := ht _ (List.mem_singleton_self _); omega
  · split at h
    · rename_i a b c _
      simp at h; subst h
      have := ht (.fn a b) (by simp); simp only [STy.n] at this; omega
    · simp at h
  · split at h
    · rename_i a b _
      simp at h; subst h
      have := ht a (by simp); omega
    · simp at h
  · rename_i a b
    simp at h; subst h
    have h1 := ht a (by simp); have h2 := ht b (by simp); simp only [STy.n]; omega
  · rename_i a b
    simp at h; subst h
    have := ht (.pair a b) (by simp); simp only [STy.n] at this; omega
  · rename_i a b
    simp at h; subst h
    have := ht (.pair a b) (by simp); simp only [STy.n] at this; omega
  · simp at h; subst h; simp [STy.n]
  · simp at h; subst h; simp [STy.n]
  · simp at h; subst h; simp only [Sx.an] at ha; omega
  · simp at h
end Go.Proofs.YtgogoekfidbpdaaDoor

namespace Go.Proofs.YtgogoekfidbpdaaDoor
open Go.RowKit
def tyFst : Option STy → Option STy
  | some (.pair a _) => some a
  | _ => none
def tySnd : Option STy → Option STy
  | some (.pair _ b) => some b
  | _ => none
def tyPut7 : Option STy → Option STy
  | some .bit => some .bit
  | _ => none
def tyPair7 : Option STy → Option STy → Option STy
  | some a, some b => lim12 (some (.pair a b))
  | _, _ => none
def tyIf7 : Option STy → Option STy → Option STy → Option STy
  | some .bit, some a, some b => if eqT a b then some a else none
  | _, _, _ => none
def tyApp7 : Option STy → Option STy → Option STy
  | some (.fn a b), some c => if eqT a c then some b else none
  | _, _ => none
end Go.Proofs.YtgogoekfidbpdaaDoor

namespace Go.Proofs.YtgogoekfidbpdaaDoor
open Go.RowKit

theorem typ_app7 (d e : Sx) (env : List (ByteArray × STy)) : (Sx.app d e).typ env = tyApp7 (d.typ env) (e.typ env) := by
  rw [Sx.typ]
  cases hd : d.typ env with
  | none => cases e.typ env <;> rfl
  | some a =>
    cases he : e.typ env with
    | none => cases a <;> rfl
    | some c =>
      cases a with
      | bit => rfl
      | pair x y => rfl
      | fn x y =>
        have := typ_n hd
        simp only [STy.n] at this
        simp only [tyApp7]
        rw [lim12_small (s := y) (by omega)]
theorem typ_if7 (d e g : Sx) (env : List (ByteArray × STy)) : (Sx.iff d e g).typ env = tyIf7 (d.typ env) (e.typ env) (g.typ env) := by
  rw [Sx.typ]
  cases hd : d.typ env with
  | none => rfl
  | some a =>
    cases he : e.typ env with
    | none => cases a <;> rfl
    | some c =>
      cases hg : g.typ env with
      | none => cases a <;> rfl
      | some k =>
        cases a with
        | bit => simp only [tyIf7]; rw [lim12_small (typ_n he)]
        | pair x y => rfl
        | fn x y => rfl
theorem typ_pair7 (d e : Sx) (env : List (ByteArray × STy)) : (Sx.pair d e).typ env = tyPair7 (d.typ env) (e.typ env) := by
  rw [Sx.typ]
  cases hd : d.typ env with
  | none => rfl
  | some a => cases he : e.typ env <;> rfl
theorem typ_fst7 (e : Sx) (env : List (ByteArray × STy)) : (Sx.fst e).typ env = tyFst (e.typ env) := by
  rw [Sx.typ]
  cases he : e.typ env with
  | none => rfl
  | some a =>
    cases a with
    | pair x y => have := typ_n he; simp only [STy.n] at this; simp only [tyFst]; rw [lim12_small (s := x) (by omega)]
    | bit => rfl
    | fn x y => rfl
theorem typ_snd7 (e : Sx) (env : List (ByteArray × STy)) : (Sx.snd e).typ env = tySnd (e.typ env) := by
  rw [Sx.typ]
  cases he : e.typ env with
  | none => rfl
  | some a =>
    cases a with
    | pair x y => have := typ_n he; simp only [STy.n] at this; simp only [tySnd]; rw [lim12_small (s := y) (by omega)]
    | bit => rfl
    | fn x y => rfl
theorem typ_put7 (e : Sx) (env : List (ByteArray × STy)) : (Sx.put e).typ env = tyPut7 (e.typ env) := by
  rw [Sx.typ]
  cases he : e.typ env with
  | none => rfl
  | some a => cases a <;> rfl
/-- An expression with a type has names of the environment alone. -/
theorem typ_fnm (e : Sx) : ∀ (env : List (ByteArray × STy)) (t : STy), e.typ env = some t → ∀ x ∈ e.fnm, ∃ y ∈ env, y.1.toList = x.toList := by
  have look : ∀ (env : List (ByteArray × STy)) (l : List UInt8) (s : STy), tLook env l = some s → ∃ y ∈ env, y.1.toList = l := by
    intro env; induction env with
    | nil => intro l s h; simp [tLook] at h
    | cons y env ih =>
      intro l s h
      obtain ⟨y, sy⟩ := y
      rw [tLook] at h
      split at h
      · rename_i e; exact ⟨(y, sy), by simp, by simpa using e⟩
      · obtain ⟨z, hz, e⟩ := ih l s h; exact ⟨z, by simp [hz], e⟩
  induction e with
  | name a =>
    intro env t h x hx
    simp [Sx.fnm] at hx; subst hx
    exact look env _ t (lim12_n h).2
  | bit a => intro env t h x hx; simp [Sx.fnm] at hx
  | get => intro env t h x hx; simp [Sx.fnm] at hx
  | fail s => intro env t h x hx; simp [Sx.fnm] at hx
  | lam y s e ihe =>
    intro env t h x hx
    rw [Sx.typ] at h
    cases he : e.typ ((y, s) :: env) with
    | none => rw [he] at h; simp at h
    | some t2 =>
      simp only [Sx.fnm, List.mem_filter] at hx
      obtain ⟨z, hz, e2⟩ := ihe _ t2 he x hx.1
      rcases List.mem_cons.1 hz with rfl | hz
      · have := hx.2; simp at this; exact absurd e2.symm this
      · exact ⟨z, hz, e2⟩
  | app d e ihd ihe =>
    intro env t h x hx
    rw [typ_app7] at h
    simp only [Sx.fnm, List.mem_append] at hx
    cases hd : d.typ env with
    | none => rw [hd] at h; cases e.typ env <;> simp [tyApp7] at h
    | some a => cases he : e.typ env with
      | none => rw [hd, he] at h; cases a <;> simp [tyApp7] at h
      | some c => rcases hx with hx | hx; exact ihd env a hd x hx; exact ihe env c he x hx
  | iff d e g ihd ihe ihg =>
    intro env t h x hx
    rw [typ_if7] at h
    simp only [Sx.fnm, List.mem_append] at hx
    cases hd : d.typ env with
    | none => rw [hd] at h; simp [tyIf7] at h
    | some a => cases he : e.typ env with
      | none => rw [hd, he] at h; cases a <;> simp [tyIf7] at h
      | some c => cases hg : g.typ env with
        | none => rw [hd, he, hg] at h; cases a <;> simp [tyIf7] at h
        | some k => rcases hx with hx | hx | hx; exact ihd env a hd x hx; exact ihe env c he x hx; exact ihg env k hg x hx
  | pair d e ihd ihe =>
    intro env t h x hx
    rw [typ_pair7] at h
    simp only [Sx.fnm, List.mem_append] at hx
    cases hd : d.typ env with
    | none => rw [hd] at h; simp [tyPair7] at h
    | some a => cases he : e.typ env with
      | none => rw [hd, he] at h; simp [tyPair7] at h
      | some c => rcases hx with hx | hx; exact ihd env a hd x hx; exact ihe env c he x hx
  | fst e ihe =>
    intro env t h x hx
    rw [typ_fst7] at h
    cases he : e.typ env with
    | none => rw [he] at h; simp [tyFst] at h
    | some a => exact ihe env a he x hx
  | snd e ihe =>
    intro env t h x hx
    rw [typ_snd7] at h
    cases he : e.typ env with
    | none => rw [he] at h; simp [tySnd] at h
    | some a => exact ihe env a he x hx
  | put e ihe =>
    intro env t h x hx
    rw [typ_put7] at h
    cases he : e.typ env with
    | none => rw [he] at h; simp [tyPut7] at h
    | some a => exact ihe env a he x hx
end Go.Proofs.YtgogoekfidbpdaaDoor
