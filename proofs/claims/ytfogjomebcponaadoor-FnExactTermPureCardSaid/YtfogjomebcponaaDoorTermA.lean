/- Terms, as plain functions: what a tree is as a term, its sort, its atoms, its text, its free names. Nothing here speaks of a program. -/
import Derived.Test.YtfogjomebcponaaDoorNameP
import Derived.Test.YtfogjomebcponaaDoorWrite
namespace Go.Proofs.YtfogjomebcponaaDoor
open Go.RowKit

/-- What stands behind a head: a value, a computation, a name, a value type, a computation type. -/
inductive Sg where
  | V | M | X | A | C
  deriving DecidableEq
/-- The shape of a head's parts. -/
def shape (h : List UInt8) : List Sg :=
  if h = [112, 97, 105, 114] then [.V, .V]
  else if h = [116, 104, 117, 110, 107] ∨ h = [102, 115, 116] ∨ h = [115, 110, 100] then [.M]
  else if h = [114, 101, 116, 117, 114, 110] ∨ h = [102, 111, 114, 99, 101] then [.V]
  else if h = [116, 111] then [.M, .X, .M]
  else if h = [108, 97, 109] then [.X, .A, .M]
  else if h = [97, 112, 112] then [.M, .V]
  else if h = [105, 102] then [.V, .M, .M]
  else if h = [115, 112, 108, 105, 116] then [.V, .X, .X, .M]
  else if h = [98, 111, 116, 104] ∨ h = [116, 114, 121] then [.M, .M]
  else if h = [103, 101, 116] then [.X, .M]
  else if h = [112, 117, 116] then [.V, .M]
  else if h = [102, 97, 105, 108] then [.C]
  else []
/-- A term as the program's nodes have it. -/
inductive Tm where
  | mk (head atom : ByteArray) (depth : Int) (binds : List ByteArray) (ty : Option Ty) (kids : List Tm)
def strName : ByteArray := ⟨#[110, 97, 109, 101]⟩
def strBit : ByteArray := ⟨#[98, 105, 116]⟩
/-- How many names are bound within the innermost one that is equal, -1 if there is none: the list's innermost one first. -/
def depthR (s : List UInt8) : List ByteArray → Nat → Int
  | [], _ => -1
  | x :: l, n => if x.toList = s then n else depthR s l (n + 1)
def depthIn (s : List UInt8) (ar : List ByteArray) : Int := depthR s ar.reverse 0
/-- The atom as a term, among names that are bound around it. -/
def atomTm (ar : List ByteArray) (s : ByteArray) : Option Tm :=
  if s.toList = [48] ∨ s.toList = [49] then some (.mk strBit s (-1) [] none [])
  else if nameB s.toList then some (.mk strName s (depthIn s.toList ar) [] none [])
  else none
def isValHead (h : List UInt8) : Bool := decide (h = [110, 97, 109, 101] ∨ h = [98, 105, 116] ∨ h = [112, 97, 105, 114] ∨ h = [116, 104, 117, 110, 107])
def Tm.isVal : Tm → Bool
  | .mk hd _ _ _ _ _ => isValHead hd.toList
/-- What has been gathered of a term's parts. -/
structure St where
  binds : List ByteArray
  ty : Option Ty
  kids : List Tm
def St.none : St := ⟨[], Option.none, []⟩
def addX (s : ByteArray) (st : St) : Option St := if nameB s.toList ∧ ¬ (st.binds.map (·.toList)).contains s.toList then some { st with binds := st.binds ++ [s] } else none
def addT (v : Bool) (t : Tree) (st : St) : Option St := match tyLim t with
  | some ty => if ty.isVal = v then some { st with ty := some ty } else none
  | none => none
def addK (v : Bool) (k : Option Tm) (st : St) : Option St := match k with
  | some m => if m.isVal = v then some { st with kids := st.kids ++ [m] } else none
  | none => none
mutual
/-- A tree as a term, among names that are bound around it. -/
def Tree.tm (ar : List ByteArray) : Tree → Option Tm
  | .atom s => atomTm ar s
  | .node [] => none
  | .node (h :: ps) => if shape h.text.toList = [] ∨ (shape h.text.toList).length ≠ ps.length then none else
    match Tree.parts ar (shape h.text.toList) ps St.none with
    | some st => some (.mk h.text ByteArray.empty 0 st.binds st.ty st.kids)
    | none => none
def Tree.parts (ar : List ByteArray) : List Sg → List Tree → St → Option St
  | [], _, st => some st
  | _ :: _, [], _ => none
  | c :: cs, p :: ps, st =>
    match (match c with
      | .X => addX p.text st
      | .A => addT true p st
      | .C => addT false p st
      | .V => addK true (Tree.tm (ar ++ st.binds) p) st
      | .M => addK false (Tree.tm (ar ++ st.binds) p) st) with
    | some st' => Tree.parts ar cs ps st'
    | none => none
end
mutual
/-- The model's sort of a tree: of a value true, of a computation false. -/
def Tree.srt : Tree → Option Bool
  | .atom s => if s.toList = [48] ∨ s.toList = [49] ∨ nameB s.toList = true then some true else none
  | .node [] => none
  | .node (h :: ps) => if shape h.text.toList = [] ∨ (shape h.text.toList).length ≠ ps.length then none else
    if Tree.fits (shape h.text.toList) ps = true ∧ ¬ (h.text.toList = [115, 112, 108, 105, 116] ∧ (ps[1]?.map (·.text.toList)) = (ps[2]?.map (·.text.toList))) then some (isValHead h.text.toList) else none
def Tree.fits : List Sg → List Tree → Bool
  | [], _ => true
  | _ :: _, [] => false
  | c :: cs, p :: ps => (match c with
      | .X => nameB p.text.toList
      | .A => (tyLim p).any Ty.isVal
      | .C => (tyLim p).any (!Ty.isVal ·)
      | .V => decide (Tree.srt p = some true)
      | .M => decide (Tree.srt p = some false)) && Tree.fits cs ps
end
/-- The names that are bound, in order. -/
def xsOf : List Sg → List Tree → List ByteArray
  | .X :: cs, p :: ps => p.text :: xsOf cs ps
  | _ :: cs, _ :: ps => xsOf cs ps
  | _, _ => []
/-- No name twice, none of those ahead. -/
def fresh : List (List UInt8) → List ByteArray → Bool
  | _, [] => true
  | B, x :: l => !B.contains x.toList && fresh (B ++ [x.toList]) l

theorem map_isVal {o : Option Tm} {b : Bool} : (o.map Tm.isVal = some b) ↔ ∃ m, o = some m ∧ m.isVal = b := by
  cases o <;> simp
theorem addK_some {v : Bool} {k : Option Tm} {st : St} : (addK v k st).isSome = decide (k.map Tm.isVal = some v) := by
  unfold addK
  cases k with
  | none => simp
  | some m => by_cases h : m.isVal = v <;> simp [h]
theorem addK_binds {v : Bool} {k : Option Tm} {st st' : St} (h : addK v k st = some st') : st'.binds = st.binds := by
  unfold addK at h
  split at h
  · split at h
    · simp at h; subst h; rfl
    · simp at h
  · simp at h
theorem addT_some {v : Bool} {t : Tree} {st : St} : (addT v t st).isSome = (tyLim t).any (fun ty => ty.isVal == v) := by
  unfold addT
  cases tyLim t with
  | none => simp
  | some m => by_cases h : m.isVal = v <;> simp [h]
theorem addT_binds {v : Bool} {t : Tree} {st st' : St} (h : addT v t st = some st') : st'.binds = st.binds := by
  unfold addT at h
  split at h
  · split at h
    · simp at h; subst h; rfl
    · simp at h
  · simp at h
theorem parts_some (ar : List ByteArray) : ∀ (cs : List Sg) (ps : List Tree) (st : St), (∀ p ∈ ps, ∀ ar, (p.tm ar).map Tm.isVal = p.srt) → cs.length = ps.length →
    (Tree.parts ar cs ps st).isSome = (Tree.fits cs ps && fresh (st.binds.map (·.toList)) (xsOf cs ps))
  | [], [], st, _, _ => by simp [Tree.parts, Tree.fits, xsOf, fresh]
  | c :: cs, p :: ps, st, ih, hl => by
    have ih' : ∀ p ∈ ps, ∀ ar, (p.tm ar).map Tm.isVal = p.srt := fun q hq => ih q (List.mem_cons_of_mem _ hq)
    have hl' : cs.length = ps.length := by simpa using hl
    cases c with
    | X =>
      rw [Tree.parts, Tree.fits]
      simp only [xsOf, fresh]
      unfold addX
      by_cases h : nameB p.text.toList = true ∧ ¬ (st.binds.map (·.toList)).contains p.text.toList = true
      · rw [if_pos h]
        simp only
        rw [parts_some ar cs ps _ ih' hl']
        have h2 : ((st.binds.map (·.toList)).contains p.text.toList) = false := by simpa using h.2
        rw [h.1, h2]; simp
      · rw [if_neg h]
        by_cases h1 : nameB p.text.toList = true
        · have h2 : ((st.binds.map (·.toList)).contains p.text.toList) = true := by simpa [h1] using h
          rw [h2]; simp
        · have h1' : nameB p.text.toList = false := by simpa using h1
          rw [h1']; simp
    | A =>
      rw [Tree.parts, Tree.fits]
      simp only [xsOf]
      have h0 := addT_some (v := true) (t := p) (st := st)
      cases h : addT true p st with
      | none => rw [h] at h0; simp at h0; simp; intro h1; cases ht : tyLim p <;> simp_all
      | some st' =>
        rw [h] at h0
        simp only
        rw [parts_some ar cs ps _ ih' hl', addT_binds h]
        have : (tyLim p).any Ty.isVal = true := by cases ht : tyLim p <;> simp_all
        rw [this]; simp
    | C =>
      rw [Tree.parts, Tree.fits]
      simp only [xsOf]
      have h0 := addT_some (v := false) (t := p) (st := st)
      cases h : addT false p st with
      | none => rw [h] at h0; simp at h0; simp; intro h1; cases ht : tyLim p <;> simp_all
      | some st' =>
        rw [h] at h0
        simp only
        rw [parts_some ar cs ps _ ih' hl', addT_binds h]
        have : (tyLim p).any (!Ty.isVal ·) = true := by cases ht : tyLim p <;> simp_all
        rw [this]; simp
    | V =>
      rw [Tree.parts, Tree.fits]
      simp only [xsOf]
      have h0 := addK_some (v := true) (k := p.tm (ar ++ st.binds)) (st := st)
      rw [ih p (List.mem_cons_self ..)] at h0
      cases h : addK true (p.tm (ar ++ st.binds)) st with
      | none => rw [h] at h0; simp at h0; simp [h0]
      | some st' =>
        rw [h] at h0; simp at h0
        simp only
        rw [parts_some ar cs ps _ ih' hl', addK_binds h]; simp [h0]
    | M =>
      rw [Tree.parts, Tree.fits]
      simp only [xsOf]
      have h0 := addK_some (v := false) (k := p.tm (ar ++ st.binds)) (st := st)
      rw [ih p (List.mem_cons_self ..)] at h0
      cases h : addK false (p.tm (ar ++ st.binds)) st with
      | none => rw [h] at h0; simp at h0; simp [h0]
      | some st' =>
        rw [h] at h0; simp at h0
        simp only
        rw [parts_some ar cs ps _ ih' hl', addK_binds h]; simp [h0]
theorem shape_mem (h : List UInt8) : (h = [115, 112, 108, 105, 116] ∧ shape h = [.V, .X, .X, .M]) ∨ (h ≠ [115, 112, 108, 105, 116] ∧ (shape h = [.V, .V] ∨ shape h = [.M] ∨ shape h = [.V] ∨ shape h = [.M, .X, .M] ∨ shape h = [.X, .A, .M] ∨ shape h = [.M, .V] ∨ shape h = [.V, .M, .M] ∨ shape h = [.M, .M] ∨ shape h = [.X, .M] ∨ shape h = [.V, .M] ∨ shape h = [.C] ∨ shape h = [])) := by
  by_cases hs : h = [115, 112, 108, 105, 116]
  · subst hs; exact Or.inl ⟨rfl, rfl⟩
  · refine Or.inr ⟨hs, ?_⟩
    generalize hx : shape h = l
    unfold shape at hx
    by_cases c0 : h = [112, 97, 105, 114]
    · rw [if_pos c0] at hx; subst hx; decide
    rw [if_neg c0] at hx
    by_cases c1 : h = [116, 104, 117, 110, 107] ∨ h = [102, 115, 116] ∨ h = [115, 110, 100]
    · rw [if_pos c1] at hx; subst hx; decide
    rw [if_neg c1] at hx
    by_cases c2 : h = [114, 101, 116, 117, 114, 110] ∨ h = [102, 111, 114, 99, 101]
    · rw [if_pos c2] at hx; subst hx; decide
    rw [if_neg c2] at hx
    by_cases c3 : h = [116, 111]
    · rw [if_pos c3] at hx; subst hx; decide
    rw [if_neg c3] at hx
    by_cases c4 : h = [108, 97, 109]
    · rw [if_pos c4] at hx; subst hx; decide
    rw [if_neg c4] at hx
    by_cases c5 : h = [97, 112, 112]
    · rw [if_pos c5] at hx; subst hx; decide
    rw [if_neg c5] at hx
    by_cases c6 : h = [105, 102]
    · rw [if_pos c6] at hx; subst hx; decide
    rw [if_neg c6] at hx
    rw [if_neg hs] at hx
    by_cases c8 : h = [98, 111, 116, 104] ∨ h = [116, 114, 121]
    · rw [if_pos c8] at hx; subst hx; decide
    rw [if_neg c8] at hx
    by_cases c9 : h = [103, 101, 116]
    · rw [if_pos c9] at hx; subst hx; decide
    rw [if_neg c9] at hx
    by_cases c10 : h = [112, 117, 116]
    · rw [if_pos c10] at hx; subst hx; decide
    rw [if_neg c10] at hx
    by_cases c11 : h = [102, 97, 105, 108]
    · rw [if_pos c11] at hx; subst hx; decide
    rw [if_neg c11] at hx
    subst hx; decide
theorem fresh_shape (h : List UInt8) (ps : List Tree) (hl : (shape h).length = ps.length) :
    fresh [] (xsOf (shape h) ps) = !decide (h = [115, 112, 108, 105, 116] ∧ ps[1]?.map (·.text.toList) = ps[2]?.map (·.text.toList)) := by
  rcases shape_mem h with ⟨hs, he⟩ | ⟨hs, he⟩
  · rw [he] at hl ⊢
    match ps, hl with
    | [a, b, c, d], _ => simp [xsOf, fresh, eq_comm, hs]
  · simp only [hs, false_and, decide_false, Bool.not_false]
    rcases he with he | he | he | he | he | he | he | he | he | he | he | he <;> rw [he] at hl ⊢
    all_goals (rcases ps with _ | ⟨a, _ | ⟨b, _ | ⟨c, _ | ⟨d, ps⟩⟩⟩⟩ <;> first | rfl | (simp at hl))
theorem tm_isVal (t : Tree) (ar : List ByteArray) : (t.tm ar).map Tm.isVal = t.srt := by
  match t with
  | .atom s =>
    rw [Tree.tm, Tree.srt, atomTm]
    by_cases h1 : s.toList = [48] ∨ s.toList = [49]
    · rw [if_pos h1, if_pos (by rcases h1 with h | h <;> simp [h])]
      have e : isValHead strBit.toList = true := by rw [Go.ByteArray.toList_eq]; rfl
      simp [Tm.isVal, e]
    · rw [if_neg h1]
      have e : isValHead strName.toList = true := by rw [Go.ByteArray.toList_eq]; rfl
      by_cases h2 : nameB s.toList = true
      · rw [if_pos h2, if_pos (Or.inr (Or.inr h2))]; simp [Tm.isVal, e]
      · rw [if_neg h2, if_neg (by intro h; rcases h with h | h | h; exact h1 (Or.inl h); exact h1 (Or.inr h); exact h2 h)]; rfl
  | .node [] => rfl
  | .node (h :: ps) =>
    rw [Tree.tm, Tree.srt]
    by_cases hc : shape h.text.toList = [] ∨ (shape h.text.toList).length ≠ ps.length
    · rw [if_pos hc, if_pos hc]; rfl
    · rw [if_neg hc, if_neg hc]
      have hl : (shape h.text.toList).length = ps.length := by
        rcases Nat.decEq (shape h.text.toList).length ps.length with h | h
        · exact absurd (Or.inr h) hc
        · exact h
      have hps := parts_some ar (shape h.text.toList) ps St.none (fun p hp ar => tm_isVal p ar) hl
      rw [show St.none.binds.map (·.toList) = [] from rfl, fresh_shape _ _ hl] at hps
      cases hq : Tree.parts ar (shape h.text.toList) ps St.none with
      | none =>
        rw [hq] at hps
        rw [if_neg]
        · rfl
        · intro hh
          rw [hh.1] at hps
          simp only [Option.isSome_none, Bool.true_and, Bool.false_eq] at hps
          simp at hps
          exact hh.2 hps
      | some st =>
        rw [hq] at hps
        simp only [Option.isSome_some, Bool.true_eq, Bool.and_eq_true] at hps
        rw [if_pos ⟨hps.1, by have := hps.2; rw [Bool.not_eq_true'] at this; exact of_decide_eq_false this⟩]
        rfl
termination_by t
decreasing_by
  have := List.sizeOf_lt_of_mem hp
  simp; omega
/-- The atoms of a type. -/
def Ty.atoms : Ty → Nat
  | .bit => 1
  | .pair a b => 1 + (a.atoms + b.atoms)
  | .thunk c => 1 + c.atoms
  | .ret a => 1 + a.atoms
  | .fn a c => 1 + (a.atoms + c.atoms)
  | .choice c d => 1 + (c.atoms + d.atoms)
def Ty.atomsL : List Ty → Nat
  | [] => 0
  | t :: ts => t.atoms + Ty.atomsL ts
theorem tyParts_atoms {L : List UInt8} {ks : List Ty} {ty : Ty} (h : tyParts L ks = some ty) : ty.atoms = 1 + Ty.atomsL ks ∧ L ≠ [] := by
  unfold tyParts at h
  split at h
  · split at h
    · rename_i c; simp at h; subst h; rw [c.1]; simp [Ty.atoms, Ty.atomsL]
    · split at h
      · rename_i c; simp at h; subst h; rw [c.1]; simp [Ty.atoms, Ty.atomsL]
      · split at h
        · rename_i c; simp at h; subst h; rw [c.1]; simp [Ty.atoms, Ty.atomsL]
        · simp at h
  · split at h
    · rename_i c; simp at h; subst h; rw [c.1]; simp [Ty.atoms, Ty.atomsL]
    · split at h
      · rename_i c; simp at h; subst h; rw [c.1]; simp [Ty.atoms, Ty.atomsL]
      · simp at h
  · simp at h
theorem text_size1 {t : Tree} (h : t.text.toList ≠ []) : t.size = 1 := by
  cases t with
  | atom s => rw [Tree.size]
  | node ps => exact absurd empty_toList h
mutual
theorem ty_size : ∀ (t : Tree) (ty : Ty), t.ty = some ty → t.size = ty.atoms
  | .atom s, ty, h => by
    rw [Tree.ty] at h
    split at h
    · simp at h; subst h; rw [Tree.size, Ty.atoms]
    · simp at h
  | .node [], ty, h => by rw [Tree.ty] at h; simp at h
  | .node (q :: qs), ty, h => by
    rw [Tree.ty] at h
    cases hk : Tree.tys qs with
    | none => rw [hk] at h; simp at h
    | some ks =>
      rw [hk] at h; simp only at h
      have h1 := tyParts_atoms h
      have h2 := tys_size qs ks hk
      rw [Tree.size, Tree.sizes, h1.1, text_size1 h1.2, h2]
theorem tys_size : ∀ (ps : List Tree) (ks : List Ty), Tree.tys ps = some ks → Tree.sizes ps = Ty.atomsL ks
  | [], ks, h => by rw [Tree.tys] at h; simp at h; subst h; rfl
  | p :: ps, ks, h => by
    rw [Tree.tys] at h
    cases hp : p.ty with
    | none => rw [hp] at h; simp at h
    | some t =>
      rw [hp] at h; simp only at h
      cases hr : Tree.tys ps with
      | none => rw [hr] at h; simp at h
      | some ts =>
        rw [hr] at h; simp at h; subst h
        rw [Tree.sizes, Ty.atomsL, ty_size p t hp, tys_size ps ts hr]
end
def tyAtoms : Option Ty → Nat
  | some t => t.atoms
  | none => 0
mutual
/-- How many atoms a term has. -/
def Tm.size : Tm → Nat
  | .mk _ _ _ bs ty ks => 1 + bs.length + tyAtoms ty + Tm.sizes ks
def Tm.sizes : List Tm → Nat
  | [] => 0
  | k :: ks => k.size + Tm.sizes ks
end
theorem tmsizes_append (a b : List Tm) : Tm.sizes (a ++ b) = Tm.sizes a + Tm.sizes b := by
  induction a with
  | nil => simp [Tm.sizes]
  | cons x a ih => simp only [List.cons_append, Tm.sizes, ih]; omega
def Sg.isT : Sg → Bool
  | .A => true
  | .C => true
  | _ => false
/-- No type twice. -/
def tyOnce (cs : List Sg) (st : St) : Prop := cs.countP Sg.isT = 0 ∨ (st.ty = none ∧ cs.countP Sg.isT ≤ 1)
def St.size (st : St) : Nat := st.binds.length + tyAtoms st.ty + Tm.sizes st.kids
theorem addX_inv {s : ByteArray} {st st' : St} (h : addX s st = some st') : nameB s.toList = true ∧ st' = { st with binds := st.binds ++ [s] } := by
  unfold addX at h
  split at h
  · rename_i c; simp at h; exact ⟨c.1, h.symm⟩
  · simp at h
theorem addT_inv {v : Bool} {t : Tree} {st st' : St} (h : addT v t st = some st') : ∃ ty, tyLim t = some ty ∧ st' = { st with ty := some ty } := by
  unfold addT at h
  split at h
  · rename_i ty ht
    split at h
    · simp at h; exact ⟨ty, ht, h.symm⟩
    · simp at h
  · simp at h
theorem addK_inv {v : Bool} {k : Option Tm} {st st' : St} (h : addK v k st = some st') : ∃ m, k = some m ∧ st' = { st with kids := st.kids ++ [m] } := by
  unfold addK at h
  split at h
  · rename_i m
    split at h
    · simp at h; exact ⟨m, rfl, h.symm⟩
    · simp at h
  · simp at h
theorem tyLim_ty {t : Tree} {ty : Ty} (h : tyLim t = some ty) : t.ty = some ty ∧ t.size ≤ 12 := by
  unfold tyLim at h
  split at h
  · exact ⟨h, ‹_›⟩
  · simp at h
theorem tyOnce_next {c : Sg} {cs : List Sg} {st st' : St} (h : tyOnce (c :: cs) st) (h1 : c.isT = false → st'.ty = st.ty) : tyOnce cs st' := by
  unfold tyOnce at h ⊢
  rw [List.countP_cons] at h
  cases hc : c.isT with
  | false =>
    rw [hc] at h; rw [h1 hc]
    simpa using h
  | true =>
    rw [hc] at h
    simp at h
    exact Or.inl (by simpa using h.2)
theorem tyOnce_none {c : Sg} {cs : List Sg} {st : St} (h : tyOnce (c :: cs) st) (hc : c.isT = true) : st.ty = none := by
  unfold tyOnce at h
  rw [List.countP_cons, hc] at h
  simp at h
  exact h.1
theorem parts_size (ar : List ByteArray) : ∀ (cs : List Sg) (ps : List Tree) (st st' : St), (∀ p ∈ ps, ∀ ar m, p.tm ar = some m → p.size = m.size) → cs.length = ps.length → tyOnce cs st →
    Tree.parts ar cs ps st = some st' → st'.size = st.size + Tree.sizes ps
  | [], [], st, st', _, _, _, h => by simp [Tree.parts] at h; subst h; simp [Tree.sizes]
  | c :: cs, p :: ps, st, st', ih, hl, ho, h => by
    have ih' : ∀ p ∈ ps, ∀ ar m, p.tm ar = some m → p.size = m.size := fun q hq => ih q (List.mem_cons_of_mem _ hq)
    have hl' : cs.length = ps.length := by simpa using hl
    have go : ∀ st1, (c.isT = false → st1.ty = st.ty) → Tree.parts ar cs ps st1 = some st' → st1.size = st.size + p.size → st'.size = st.size + Tree.sizes (p :: ps) := by
      intro st1 h1 h2 h3
      rw [parts_size ar cs ps st1 st' ih' hl' (tyOnce_next ho h1) h2, h3, Tree.sizes]; omega
    cases c with
    | X =>
      rw [Tree.parts] at h
      cases h1 : addX p.text st with
      | none => rw [h1] at h; simp at h
      | some st1 =>
        rw [h1] at h
        have h2 := addX_inv h1
        refine go st1 (fun _ => by rw [h2.2]) h ?_
        rw [text_size1 (nameB_ne h2.1), h2.2]; simp [St.size]; omega
    | A =>
      rw [Tree.parts] at h
      cases h1 : addT true p st with
      | none => rw [h1] at h; simp at h
      | some st1 =>
        rw [h1] at h
        obtain ⟨ty, ht, h2⟩ := addT_inv h1
        refine go st1 (by simp [Sg.isT]) h ?_
        have := tyOnce_none ho rfl
        rw [h2, ty_size p ty (tyLim_ty ht).1]; simp [St.size, this, tyAtoms]; omega
    | C =>
      rw [Tree.parts] at h
      cases h1 : addT false p st with
      | none => rw [h1] at h; simp at h
      | some st1 =>
        rw [h1] at h
        obtain ⟨ty, ht, h2⟩ := addT_inv h1
        refine go st1 (by simp [Sg.isT]) h ?_
        have := tyOnce_none ho rfl
        rw [h2, ty_size p ty (tyLim_ty ht).1]; simp [St.size, this, tyAtoms]; omega
    | V =>
      rw [Tree.parts] at h
      cases h1 : addK true (p.tm (ar ++ st.binds)) st with
      | none => rw [h1] at h; simp at h
      | some st1 =>
        rw [h1] at h
        obtain ⟨m, ht, h2⟩ := addK_inv h1
        refine go st1 (fun _ => by rw [h2]) h ?_
        rw [h2, ih p (List.mem_cons_self ..) _ _ ht]; simp [St.size, tmsizes_append, Tm.sizes]; omega
    | M =>
      rw [Tree.parts] at h
      cases h1 : addK false (p.tm (ar ++ st.binds)) st with
      | none => rw [h1] at h; simp at h
      | some st1 =>
        rw [h1] at h
        obtain ⟨m, ht, h2⟩ := addK_inv h1
        refine go st1 (fun _ => by rw [h2]) h ?_
        rw [h2, ih p (List.mem_cons_self ..) _ _ ht]; simp [St.size, tmsizes_append, Tm.sizes]; omega
theorem shape_once (h : List UInt8) : tyOnce (shape h) St.none := by
  refine Or.inr ⟨rfl, ?_⟩
  rcases shape_mem h with ⟨hs, he⟩ | ⟨hs, he⟩
  · rw [he]; decide
  · rcases he with he | he | he | he | he | he | he | he | he | he | he | he <;> (rw [he]; decide)
/-- What a tree with parts is as a term. -/
theorem tm_node {ar : List ByteArray} {h : Tree} {ps : List Tree} {m : Tm} (ht : Tree.tm ar (.node (h :: ps)) = some m) :
    ∃ st, shape h.text.toList ≠ [] ∧ (shape h.text.toList).length = ps.length ∧ Tree.parts ar (shape h.text.toList) ps St.none = some st ∧ m = .mk h.text ByteArray.empty 0 st.binds st.ty st.kids := by
  rw [Tree.tm] at ht
  split at ht
  · simp at ht
  · rename_i hc
    have hl : (shape h.text.toList).length = ps.length := by
      rcases Nat.decEq (shape h.text.toList).length ps.length with h | h
      · exact absurd (Or.inr h) hc
      · exact h
    split at ht
    · rename_i st hq
      simp at ht
      exact ⟨st, fun e => hc (Or.inl e), hl, hq, ht.symm⟩
    · simp at ht
theorem shape_ne {h : List UInt8} (hs : shape h ≠ []) : h ≠ [] := by intro e; subst e; exact hs rfl
theorem tm_size (t : Tree) (ar : List ByteArray) (m : Tm) (h : t.tm ar = some m) : t.size = m.size := by
  match t with
  | .atom s =>
    rw [Tree.tm, atomTm] at h
    split at h
    · simp at h; subst h; rfl
    · split at h
      · simp at h; subst h; rfl
      · simp at h
  | .node [] => rw [Tree.tm] at h; simp at h
  | .node (q :: ps) =>
    obtain ⟨st, h1, h2, h3, rfl⟩ := tm_node h
    have := parts_size ar _ ps St.none st (fun p hp ar m => tm_size p ar m) h2 (shape_once _) h3
    rw [Tree.size, Tree.sizes, text_size1 (shape_ne h1), Tm.size]
    have e0 : St.none.size = 0 := rfl
    rw [e0] at this
    simp only [St.size] at this
    omega
termination_by t
decreasing_by
  have := List.sizeOf_lt_of_mem hp
  simp; omega
/-- The parts of a term with a head, woven into a text. -/
def tyText : Option Ty → List UInt8
  | some t => t.write
  | none => []
def weave : List Sg → List ByteArray → Option Ty → List (List UInt8) → List UInt8
  | [], _, _, _ => []
  | .X :: cs, b :: bs, ty, ks => 32 :: (b.data.toList ++ weave cs bs ty ks)
  | .X :: _, [], _, _ => []
  | .A :: cs, bs, ty, ks => 32 :: (tyText ty ++ weave cs bs ty ks)
  | .C :: cs, bs, ty, ks => 32 :: (tyText ty ++ weave cs bs ty ks)
  | .V :: cs, bs, ty, k :: ks => 32 :: (k ++ weave cs bs ty ks)
  | .V :: _, _, _, [] => []
  | .M :: cs, bs, ty, k :: ks => 32 :: (k ++ weave cs bs ty ks)
  | .M :: _, _, _, [] => []
mutual
/-- A term as a text. -/
def Tm.write : Tm → List UInt8
  | .mk hd a _ bs ty ks => if a.toList = [] then 40 :: (hd.data.toList ++ (weave (shape hd.toList) bs ty (Tm.writes ks) ++ [41])) else a.data.toList
def Tm.writes : List Tm → List (List UInt8)
  | [] => []
  | k :: ks => k.write :: Tm.writes ks
end
theorem tmwrites_append (a b : List Tm) : Tm.writes (a ++ b) = Tm.writes a ++ Tm.writes b := by
  induction a with
  | nil => rfl
  | cons x a ih => simp only [List.cons_append, Tm.writes, ih]
theorem text_write {t : Tree} (h : t.text.toList ≠ []) : t.write = t.text.data.toList := by
  cases t with
  | atom s => rw [Tree.write]; rfl
  | node ps => exact absurd empty_toList h
theorem parts_keep (ar : List ByteArray) : ∀ (cs : List Sg) (ps : List Tree) (st st' : St), Tree.parts ar cs ps st = some st' → cs.countP Sg.isT = 0 → st'.ty = st.ty
  | [], _, st, st', h, _ => by simp [Tree.parts] at h; rw [← h]
  | c :: cs, [], st, st', h, _ => by cases c <;> simp [Tree.parts] at h
  | c :: cs, p :: ps, st, st', h, hc => by
    rw [List.countP_cons] at hc
    cases c with
    | X =>
      rw [Tree.parts] at h
      cases h1 : addX p.text st with
      | none => rw [h1] at h; simp at h
      | some st1 => rw [h1] at h; rw [parts_keep ar cs ps st1 st' h (Nat.add_eq_zero_iff.1 hc).1, (addX_inv h1).2]
    | A => simp [Sg.isT] at hc
    | C => simp [Sg.isT] at hc
    | V =>
      rw [Tree.parts] at h
      cases h1 : addK true (p.tm (ar ++ st.binds)) st with
      | none => rw [h1] at h; simp at h
      | some st1 =>
        rw [h1] at h; obtain ⟨m, _, h2⟩ := addK_inv h1
        rw [parts_keep ar cs ps st1 st' h (Nat.add_eq_zero_iff.1 hc).1, h2]
    | M =>
      rw [Tree.parts] at h
      cases h1 : addK false (p.tm (ar ++ st.binds)) st with
      | none => rw [h1] at h; simp at h
      | some st1 =>
        rw [h1] at h; obtain ⟨m, _, h2⟩ := addK_inv h1
        rw [parts_keep ar cs ps st1 st' h (Nat.add_eq_zero_iff.1 hc).1, h2]
theorem tyOnce_T {c : Sg} {cs : List Sg} {st : St} (h : tyOnce (c :: cs) st) (hc : c.isT = true) : cs.countP Sg.isT = 0 := by
  unfold tyOnce at h
  rw [List.countP_cons, hc] at h
  simp at h
  simpa using h.2
theorem parts_write (ar : List ByteArray) : ∀ (cs : List Sg) (ps : List Tree) (st st' : St), (∀ p ∈ ps, ∀ ar m, p.tm ar = some m → m.write = p.write) → cs.length = ps.length → tyOnce cs st →
    Tree.parts ar cs ps st = some st' → ∃ nb nk, st'.binds = st.binds ++ nb ∧ st'.kids = st.kids ++ nk ∧ Tree.writes ps = weave cs nb st'.ty (Tm.writes nk)
  | [], [], st, st', _, _, _, h => by simp [Tree.parts] at h; subst h; exact ⟨[], [], by simp, by simp, rfl⟩
  | c :: cs, p :: ps, st, st', ih, hl, ho, h => by
    have ih' : ∀ p ∈ ps, ∀ ar m, p.tm ar = some m → m.write = p.write := fun q hq => ih q (List.mem_cons_of_mem _ hq)
    have hl' : cs.length = ps.length := by simpa using hl
    cases c with
    | X =>
      rw [Tree.parts] at h
      cases h1 : addX p.text st with
      | none => rw [h1] at h; simp at h
      | some st1 =>
        rw [h1] at h
        have h2 := addX_inv h1
        obtain ⟨nb, nk, e1, e2, e3⟩ := parts_write ar cs ps st1 st' ih' hl' (tyOnce_next ho (fun _ => by rw [h2.2])) h
        refine ⟨p.text :: nb, nk, by rw [e1, h2.2]; simp, by rw [e2, h2.2], ?_⟩
        rw [Tree.writes, e3, text_write (nameB_ne h2.1)]; rfl
    | A =>
      rw [Tree.parts] at h
      cases h1 : addT true p st with
      | none => rw [h1] at h; simp at h
      | some st1 =>
        rw [h1] at h
        obtain ⟨ty, ht, h2⟩ := addT_inv h1
        obtain ⟨nb, nk, e1, e2, e3⟩ := parts_write ar cs ps st1 st' ih' hl' (tyOnce_next ho (by simp [Sg.isT])) h
        have e4 := parts_keep ar cs ps st1 st' h (tyOnce_T ho rfl)
        refine ⟨nb, nk, by rw [e1, h2], by rw [e2, h2], ?_⟩
        rw [Tree.writes, e3, ty_write p ty (tyLim_ty ht).1, e4, h2]; rfl
    | C =>
      rw [Tree.parts] at h
      cases h1 : addT false p st with
      | none => rw [h1] at h; simp at h
      | some st1 =>
        rw [h1] at h
        obtain ⟨ty, ht, h2⟩ := addT_inv h1
        obtain ⟨nb, nk, e1, e2, e3⟩ := parts_write ar cs ps st1 st' ih' hl' (tyOnce_next ho (by simp [Sg.isT])) h
        have e4 := parts_keep ar cs ps st1 st' h (tyOnce_T ho rfl)
        refine ⟨nb, nk, by rw [e1, h2], by rw [e2, h2], ?_⟩
        rw [Tree.writes, e3, ty_write p ty (tyLim_ty ht).1, e4, h2]; rfl
    | V =>
      rw [Tree.parts] at h
      cases h1 : addK true (p.tm (ar ++ st.binds)) st with
      | none => rw [h1] at h; simp at h
      | some st1 =>
        rw [h1] at h
        obtain ⟨m, ht, h2⟩ := addK_inv h1
        obtain ⟨nb, nk, e1, e2, e3⟩ := parts_write ar cs ps st1 st' ih' hl' (tyOnce_next ho (fun _ => by rw [h2])) h
        refine ⟨nb, m :: nk, by rw [e1, h2], by rw [e2, h2]; simp, ?_⟩
        rw [Tree.writes, e3, ← ih p (List.mem_cons_self ..) _ _ ht]; rfl
    | M =>
      rw [Tree.parts] at h
      cases h1 : addK false (p.tm (ar ++ st.binds)) st with
      | none => rw [h1] at h; simp at h
      | some st1 =>
        rw [h1] at h
        obtain ⟨m, ht, h2⟩ := addK_inv h1
        obtain ⟨nb, nk, e1, e2, e3⟩ := parts_write ar cs ps st1 st' ih' hl' (tyOnce_next ho (fun _ => by rw [h2])) h
        refine ⟨nb, m :: nk, by rw [e1, h2], by rw [e2, h2]; simp, ?_⟩
        rw [Tree.writes, e3, ← ih p (List.mem_cons_self ..) _ _ ht]; rfl
theorem tm_write (t : Tree) (ar : List ByteArray) (m : Tm) (h : t.tm ar = some m) : m.write = t.write := by
  match t with
  | .atom s =>
    rw [Tree.tm, atomTm] at h
    split at h
    · rename_i c; simp at h; subst h; rw [Tm.write, if_neg (by rcases c with c | c <;> rw [c] <;> simp), Tree.write]
    · split at h
      · rename_i c; simp at h; subst h; rw [Tm.write, if_neg (nameB_ne c), Tree.write]
      · simp at h
  | .node [] => rw [Tree.tm] at h; simp at h
  | .node (q :: ps) =>
    obtain ⟨st, h1, h2, h3, rfl⟩ := tm_node h
    obtain ⟨nb, nk, e1, e2, e3⟩ := parts_write ar _ ps St.none st (fun p hp ar m => tm_write p ar m) h2 (shape_once _) h3
    have e1' : st.binds = nb := by rw [e1]; rfl
    have e2' : st.kids = nk := by rw [e2]; rfl
    rw [Tm.write, if_pos empty_toList, Tree.write, text_write (shape_ne h1), e3, e1', e2']
termination_by t
decreasing_by
  have := List.sizeOf_lt_of_mem hp
  simp; omega
theorem hasB_append (a b : List ByteArray) (s : List UInt8) : hasB (a ++ b) s = (hasB a s || hasB b s) := by
  simp [hasB]
theorem depthR_neg (s : List UInt8) : ∀ (l : List ByteArray) (n : Nat), decide (depthR s l n = -1) = !hasB l s
  | [], n => by simp [depthR, hasB]
  | x :: l, n => by
    rw [depthR]
    by_cases h : x.toList = s
    · have : ¬ ((n : Int) = -1) := by omega
      simp [h, hasB, this]
    · have ih := depthR_neg s l (n + 1)
      have h' : ¬ s = x.toList := fun e => h e.symm
      rw [if_neg h, ih]; simp [hasB, h']
theorem depthIn_neg (s : List UInt8) (l : List ByteArray) : decide (depthIn s l = -1) = !hasB l s := by
  unfold depthIn; rw [depthR_neg]; simp [hasB]
mutual
/-- The names that stand free, as often as they do. -/
def Tm.free : Tm → List ByteArray
  | .mk hd a d _ _ ks => if hd.toList = [110, 97, 109, 101] ∧ d = -1 then [a] else Tm.frees ks
def Tm.frees : List Tm → List ByteArray
  | [] => []
  | k :: ks => k.free ++ Tm.frees ks
end
theorem frees_append (a b : List Tm) : Tm.frees (a ++ b) = Tm.frees a ++ Tm.frees b := by
  induction a with
  | nil => rfl
  | cons x a ih => simp only [List.cons_append, Tm.frees, ih, List.append_assoc]
/-- The names that a tree binds in its last part. -/
def Sg.isK : Sg → Bool
  | .V => true
  | .M => true
  | _ => false
mutual
/-- The same of a tree, some names bound around it. -/
def Tree.free (bd : List ByteArray) : Tree → List ByteArray
  | .atom s => if nameB s.toList = true ∧ hasB bd s.toList = false then [s] else []
  | .node [] => []
  | .node (h :: ps) => Tree.frees bd (xsOf (shape h.text.toList) ps) (shape h.text.toList) ps
def Tree.frees (bd xs : List ByteArray) : List Sg → List Tree → List ByteArray
  | [], _ => []
  | _ :: _, [] => []
  | c :: cs, p :: ps => (if c.isK = true then (if cs = [] then Tree.free (bd ++ xs) p else Tree.free bd p) else []) ++ Tree.frees bd xs cs ps
end
/-- Names are bound behind all parts but the last one. -/
def goodSh : List Sg → Bool → Bool
  | [], _ => true
  | .X :: cs, _ => goodSh cs true
  | .A :: cs, b => goodSh cs b
  | .C :: cs, b => goodSh cs b
  | .V :: cs, b => (cs.isEmpty || !b) && goodSh cs b
  | .M :: cs, b => (cs.isEmpty || !b) && goodSh cs b
theorem shape_good (h : List UInt8) : goodSh (shape h) false = true := by
  rcases shape_mem h with ⟨hs, he⟩ | ⟨hs, he⟩
  · rw [he]; decide
  · rcases he with he | he | he | he | he | he | he | he | he | he | he | he <;> (rw [he]; decide)
theorem parts_free (ar : List ByteArray) (xs : List ByteArray) : ∀ (cs : List Sg) (ps : List Tree) (st st' : St) (b : Bool), (∀ p ∈ ps, ∀ ar m, p.tm ar = some m → m.free = p.free ar) → cs.length = ps.length → goodSh cs b = true → (b = false → st.binds = []) → xs = st.binds ++ xsOf cs ps →
    Tree.parts ar cs ps st = some st' → Tm.frees st'.kids = Tm.frees st.kids ++ Tree.frees ar xs cs ps
  | [], [], st, st', b, _, _, _, _, _, h => by simp [Tree.parts] at h; subst h; simp [Tree.frees]
  | c :: cs, p :: ps, st, st', b, ih, hl, hg, hb, hx, h => by
    have ih' : ∀ p ∈ ps, ∀ ar m, p.tm ar = some m → m.free = p.free ar := fun q hq => ih q (List.mem_cons_of_mem _ hq)
    have hl' : cs.length = ps.length := by simpa using hl
    have kid : ∀ v, xsOf (c :: cs) (p :: ps) = xsOf cs ps → c.isK = true → ((cs.isEmpty || !b) && goodSh cs b) = true → ∀ st1, addK v (p.tm (ar ++ st.binds)) st = some st1 → Tree.parts ar cs ps st1 = some st' → Tm.frees st'.kids = Tm.frees st.kids ++ Tree.frees ar xs (c :: cs) (p :: ps) := by
      intro v hxo hk hgg st1 h1 h2
      obtain ⟨m, ht, h3⟩ := addK_inv h1
      simp only [Bool.and_eq_true, Bool.or_eq_true] at hgg
      have hb1 : st1.binds = st.binds := by rw [h3]
      rw [parts_free ar xs cs ps st1 st' b ih' hl' hgg.2 (fun e => by rw [hb1]; exact hb e) (by rw [hb1, hx, hxo]) h2, h3]
      have hf := ih p (List.mem_cons_self ..) _ _ ht
      simp only [frees_append, Tm.frees, List.append_nil, Tree.frees, hk, if_true, List.append_assoc]
      rw [hf]
      congr 2
      by_cases hc : cs = []
      · subst hc
        rw [if_pos rfl]
        match ps, hl' with
        | [], _ => rw [hx, hxo]; simp [xsOf]
      · rw [if_neg hc]
        have : b = false := by
          rcases hgg.1 with h | h
          · simp at h; exact absurd h hc
          · simpa using h
        rw [hb this, List.append_nil]
    cases c with
    | X =>
      rw [Tree.parts] at h
      cases h1 : addX p.text st with
      | none => rw [h1] at h; simp at h
      | some st1 =>
        rw [h1] at h
        have h2 := addX_inv h1
        rw [parts_free ar xs cs ps st1 st' true ih' hl' (by simpa [goodSh] using hg) (by simp) (by rw [hx, h2.2]; simp [xsOf]) h, h2.2]
        simp [Tree.frees, Sg.isK]
    | A =>
      rw [Tree.parts] at h
      cases h1 : addT true p st with
      | none => rw [h1] at h; simp at h
      | some st1 =>
        rw [h1] at h
        obtain ⟨ty, ht, h2⟩ := addT_inv h1
        rw [parts_free ar xs cs ps st1 st' b ih' hl' (by simpa [goodSh] using hg) (fun e => by rw [h2]; exact hb e) (by rw [hx, h2]; simp [xsOf]) h, h2]
        simp [Tree.frees, Sg.isK]
    | C =>
      rw [Tree.parts] at h
      cases h1 : addT false p st with
      | none => rw [h1] at h; simp at h
      | some st1 =>
        rw [h1] at h
        obtain ⟨ty, ht, h2⟩ := addT_inv h1
        rw [parts_free ar xs cs ps st1 st' b ih' hl' (by simpa [goodSh] using hg) (fun e => by rw [h2]; exact hb e) (by rw [hx, h2]; simp [xsOf]) h, h2]
        simp [Tree.frees, Sg.isK]
    | V =>
      rw [Tree.parts] at h
      cases h1 : addK true (p.tm (ar ++ st.binds)) st with
      | none => rw [h1] at h; simp at h
      | some st1 => rw [h1] at h; exact kid true (by simp [xsOf]) rfl (by simpa only [goodSh] using hg) st1 h1 h
    | M =>
      rw [Tree.parts] at h
      cases h1 : addK false (p.tm (ar ++ st.binds)) st with
      | none => rw [h1] at h; simp at h
      | some st1 => rw [h1] at h; exact kid false (by simp [xsOf]) rfl (by simpa only [goodSh] using hg) st1 h1 h
theorem strName_toList : strName.toList = [110, 97, 109, 101] := by rw [Go.ByteArray.toList_eq]; rfl
theorem strBit_toList : strBit.toList = [98, 105, 116] := by rw [Go.ByteArray.toList_eq]; rfl
theorem shape_name : shape [110, 97, 109, 101] = [] := rfl
theorem tm_free (t : Tree) (ar : List ByteArray) (m : Tm) (h : t.tm ar = some m) : m.free = t.free ar := by
  match t with
  | .atom s =>
    rw [Tree.tm, atomTm] at h
    split at h
    · rename_i c; simp at h; subst h
      rw [Tm.free, if_neg (by rw [strBit_toList]; simp), Tree.free, if_neg]
      · rfl
      · rcases c with c | c <;> (rw [c]; simp [nameB])
    · split at h
      · rename_i c; simp at h; subst h
        rw [Tm.free, Tree.free]
        have := depthIn_neg s.toList ar
        by_cases hh : hasB ar s.toList = true
        · rw [hh] at this; simp at this
          rw [if_neg (fun e => this e.2), if_neg (by simp [hh])]; rfl
        · have h2 : hasB ar s.toList = false := by simpa using hh
          rw [h2] at this; simp at this
          rw [if_pos ⟨strName_toList, this⟩, if_pos ⟨c, h2⟩]
      · simp at h
  | .node [] => rw [Tree.tm] at h; simp at h
  | .node (q :: ps) =>
    obtain ⟨st, h1, h2, h3, rfl⟩ := tm_node h
    have := parts_free ar (xsOf (shape q.text.toList) ps) _ ps St.none st false (fun p hp ar m => tm_free p ar m) h2 (shape_good _) (fun _ => rfl) (by simp [St.none]) h3
    rw [Tm.free, if_neg (fun e => h1 (by rw [e.1]; rfl)), Tree.free, this]
    simp [St.none, Tm.frees]
termination_by t
decreasing_by
  have := List.sizeOf_lt_of_mem hp
  simp; omega
end Go.Proofs.YtfogjomebcponaaDoor
