/- Source expressions, plainly: which tree is one. Nothing here speaks of a program. -/
import Derived.Test.YtinlibkkbjfmeaaDoorSrcP
import Derived.Test.YtinlibkkbjfmeaaDoorNameP
namespace Go.Proofs.YtinlibkkbjfmeaaDoor
open Go.RowKit

/-- A source expression. -/
inductive Sx where
  | name (a : ByteArray)
  | bit (a : ByteArray)
  | lam (x : ByteArray) (s : STy) (e : Sx)
  | app (d e : Sx)
  | iff (d e g : Sx)
  | pair (d e : Sx)
  | fst (e : Sx)
  | snd (e : Sx)
  | get
  | put (e : Sx)
  | fail (s : STy)
def hName : ByteArray := ⟨#[110, 97, 109, 101]⟩
def hBit : ByteArray := ⟨#[98, 105, 116]⟩
def hLam : ByteArray := ⟨#[108, 97, 109]⟩
def hApp : ByteArray := ⟨#[97, 112, 112]⟩
def hIf : ByteArray := ⟨#[105, 102]⟩
def hPair : ByteArray := ⟨#[112, 97, 105, 114]⟩
def hFst : ByteArray := ⟨#[102, 115, 116]⟩
def hSnd : ByteArray := ⟨#[115, 110, 100]⟩
def hGet : ByteArray := ⟨#[103, 101, 116]⟩
def hPut : ByteArray := ⟨#[112, 117, 116]⟩
def hFail : ByteArray := ⟨#[102, 97, 105, 108]⟩
theorem hName_l : hName.toList = [110, 97, 109, 101] := by rw [Go.ByteArray.toList_eq]; rfl
theorem hBit_l : hBit.toList = [98, 105, 116] := by rw [Go.ByteArray.toList_eq]; rfl
theorem hLam_l : hLam.toList = [108, 97, 109] := by rw [Go.ByteArray.toList_eq]; rfl
theorem hApp_l : hApp.toList = [97, 112, 112] := by rw [Go.ByteArray.toList_eq]; rfl
theorem hIf_l : hIf.toList = [105, 102] := by rw [Go.ByteArray.toList_eq]; rfl
theorem hPair_l : hPair.toList = [112, 97, 105, 114] := by rw [Go.ByteArray.toList_eq]; rfl
theorem hFst_l : hFst.toList = [102, 115, 116] := by rw [Go.ByteArray.toList_eq]; rfl
theorem hSnd_l : hSnd.toList = [115, 110, 100] := by rw [Go.ByteArray.toList_eq]; rfl
theorem hGet_l : hGet.toList = [103, 101, 116] := by rw [Go.ByteArray.toList_eq]; rfl
theorem hPut_l : hPut.toList = [112, 117, 116] := by rw [Go.ByteArray.toList_eq]; rfl
theorem hFail_l : hFail.toList = [102, 97, 105, 108] := by rw [Go.ByteArray.toList_eq]; rfl
/-- The first word of an expression, as the program keeps it. -/
def Sx.head : Sx → ByteArray
  | .name _ => hName
  | .bit _ => hBit
  | .lam _ _ _ => hLam
  | .app _ _ => hApp
  | .iff _ _ _ => hIf
  | .pair _ _ => hPair
  | .fst _ => hFst
  | .snd _ => hSnd
  | .get => hGet
  | .put _ => hPut
  | .fail _ => hFail
def Sx.atom : Sx → ByteArray
  | .name a => a
  | .bit a => a
  | _ => ByteArray.empty
def Sx.nm : Sx → ByteArray
  | .lam x _ _ => x
  | _ => ByteArray.empty
def Sx.ty : Sx → Option STy
  | .lam _ s _ => some s
  | .fail s => some s
  | _ => none
def Sx.kids : Sx → List Sx
  | .lam _ _ e => [e]
  | .app d e => [d, e]
  | .iff d e g => [d, e, g]
  | .pair d e => [d, e]
  | .fst e => [e]
  | .snd e => [e]
  | .put e => [e]
  | _ => []
theorem kids_3 (e : Sx) : e.kids.length ≤ 3 := by cases e <;> simp [Sx.kids]
/-- An expression as a tree. -/
def Sx.tree : Sx → Tree
  | .name a => .atom a
  | .bit a => .atom a
  | .lam x s e => .node [.atom hLam, .atom x, s.tree, e.tree]
  | .app d e => .node [.atom hApp, d.tree, e.tree]
  | .iff d e g => .node [.atom hIf, d.tree, e.tree, g.tree]
  | .pair d e => .node [.atom hPair, d.tree, e.tree]
  | .fst e => .node [.atom hFst, e.tree]
  | .snd e => .node [.atom hSnd, e.tree]
  | .get => .node [.atom hGet]
  | .put e => .node [.atom hPut, e.tree]
  | .fail s => .node [.atom hFail, s.tree]

/-- What stands behind a head: an expression, a name, a source type. -/
inductive Fg where
  | e
  | x
  | s
def Fg.up : Fg → UInt8
  | .e => 101
  | .x => 120
  | .s => 83
def Fg.low : Fg → UInt8
  | .e => 101
  | .x => 120
  | .s => 115
def frm (l : List UInt8) : Option (List Fg) :=
  if l = [108, 97, 109] then some [.x, .s, .e]
  else if l = [105, 102] then some [.e, .e, .e]
  else if l = [97, 112, 112] ∨ l = [112, 97, 105, 114] then some [.e, .e]
  else if l = [102, 115, 116] ∨ l = [115, 110, 100] ∨ l = [112, 117, 116] then some [.e]
  else if l = [103, 101, 116] then some []
  else if l = [102, 97, 105, 108] then some [.s]
  else none
theorem frm_cases {l : List UInt8} {f : List Fg} (h : frm l = some f) :
    (l = hLam.toList ∧ f = [.x, .s, .e]) ∨ (l = hIf.toList ∧ f = [.e, .e, .e]) ∨ (l = hApp.toList ∧ f = [.e, .e]) ∨ (l = hPair.toList ∧ f = [.e, .e]) ∨
    (l = hFst.toList ∧ f = [.e]) ∨ (l = hSnd.toList ∧ f = [.e]) ∨ (l = hPut.toList ∧ f = [.e]) ∨ (l = hGet.toList ∧ f = []) ∨ (l = hFail.toList ∧ f = [.s]) := by
  rw [hLam_l, hIf_l, hApp_l, hPair_l, hFst_l, hSnd_l, hPut_l, hGet_l, hFail_l]
  unfold frm at h
  split at h
  · simp at h; simp [*]
  split at h
  · simp at h; simp [*]
  split at h
  · rename_i h3; simp at h; rcases h3 with h3 | h3 <;> simp [h3, ← h]
  split at h
  · rename_i h3; simp at h; rcases h3 with h3 | h3 | h3 <;> simp [h3, ← h]
  split at h
  · simp at h; simp [*]
  split at h
  · simp at h; simp [*]
  · simp at h

/-- What has been gathered of an expression's parts. -/
structure Sst where
  nm : ByteArray
  ty : Option STy
  ks : List Sx
def Sst.none : Sst := ⟨ByteArray.empty, .none, []⟩
def add7 : Fg → Tree → Option Sx → Sst → Option Sst
  | .x, p, _, st => if nameB p.text.toList = true then some ⟨p.text, st.ty, st.ks⟩ else none
  | .s, p, _, st => match stLim p with
    | some s => some ⟨st.nm, some s, st.ks⟩
    | .none => .none
  | .e, _, o, st => match o with
    | some k => some ⟨st.nm, st.ty, st.ks ++ [k]⟩
    | .none => .none
def addL : List Fg → List Tree → List (Option Sx) → Sst → Option Sst
  | [], [], [], st => some st
  | g :: gs, p :: ps, o :: os, st => match add7 g p o st with
    | some st' => addL gs ps os st'
    | none => none
  | _, _, _, _ => none
/-- The expression of a head with its parts. -/
def mkSx (l : List UInt8) : Sst → Option Sx
  | ⟨x, some s, [e]⟩ => if l = [108, 97, 109] then some (.lam x s e) else none
  | ⟨_, none, [d, e, g]⟩ => if l = [105, 102] then some (.iff d e g) else none
  | ⟨_, none, [d, e]⟩ => if l = [97, 112, 112] then some (.app d e) else if l = [112, 97, 105, 114] then some (.pair d e) else none
  | ⟨_, none, [e]⟩ => if l = [102, 115, 116] then some (.fst e) else if l = [115, 110, 100] then some (.snd e) else if l = [112, 117, 116] then some (.put e) else none
  | ⟨_, none, []⟩ => if l = [103, 101, 116] then some .get else none
  | ⟨_, some s, []⟩ => if l = [102, 97, 105, 108] then some (.fail s) else none
  | _ => none
def sxParts (ps : List Tree) (os : List (Option Sx)) : Option Sx :=
  match ps, os with
  | q :: qs, _ :: os => match frm q.text.toList with
    | none => none
    | some f => match addL f qs os Sst.none with
      | none => none
      | some st => mkSx q.text.toList st
  | _, _ => none
/-- What an atom is as an expression. -/
def atomSx (s : ByteArray) : Option Sx := if s.toList = [48] ∨ s.toList = [49] then some (.bit s) else if nameB s.toList = true then some (.name s) else none
mutual
/-- What a tree is as a source expression of any size. -/
def Tree.sx : Tree → Option Sx
  | .atom s => atomSx s
  | .node ps => sxParts ps (Tree.sxs ps)
def Tree.sxs : List Tree → List (Option Sx)
  | [] => []
  | p :: ps => p.sx :: Tree.sxs ps
end
theorem sxs_map (ps : List Tree) : Tree.sxs ps = ps.map Tree.sx := by
  induction ps with
  | nil => rfl
  | cons p ps ih => rw [Tree.sxs, ih]; rfl
theorem sx_none {q : Tree} {qs : List Tree} (h : frm q.text.toList = none) : (Tree.node (q :: qs)).sx = none := by
  rw [Tree.sx, Tree.sxs, sxParts, h]
theorem sx_some {q : Tree} {qs : List Tree} {f : List Fg} (h : frm q.text.toList = some f) : (Tree.node (q :: qs)).sx = (addL f qs (qs.map Tree.sx) Sst.none).bind (mkSx q.text.toList) := by
  rw [Tree.sx, Tree.sxs, sxParts, h, sxs_map]
  simp only
  cases addL f qs (qs.map Tree.sx) Sst.none <;> rfl
theorem addL_len {f : List Fg} : ∀ {qs : List Tree} {os : List (Option Sx)} {st st' : Sst}, addL f qs os st = some st' → f.length = qs.length := by
  induction f with
  | nil =>
    intro qs os st st' h
    cases qs with
    | nil => rfl
    | cons q qs => simp [addL] at h
  | cons g gs ih =>
    intro qs os st st' h
    cases qs with
    | nil => simp [addL] at h
    | cons q qs =>
      cases os with
      | nil => simp [addL] at h
      | cons o os =>
        rw [addL] at h
        cases ha : add7 g q o st with
        | none => rw [ha] at h; simp at h
        | some st2 => rw [ha] at h; simp only at h; simp [ih h]
theorem addL_bad {f : List Fg} {qs : List Tree} {os : List (Option Sx)} {st : Sst} (h : f.length ≠ qs.length) : addL f qs os st = none := by
  cases ha : addL f qs os st with
  | none => rfl
  | some st' => exact absurd (addL_len ha) h
theorem addL_cons {g : Fg} {gs : List Fg} {p : Tree} {ps : List Tree} {o : Option Sx} {os : List (Option Sx)} {st : Sst} :
    addL (g :: gs) (p :: ps) (o :: os) st = match add7 g p o st with
      | some st' => addL gs ps os st'
      | none => none := rfl
theorem add7_e {p : Tree} {o : Option Sx} {st st' : Sst} (h : add7 .e p o st = some st') : ∃ k, o = some k ∧ st' = ⟨st.nm, st.ty, st.ks ++ [k]⟩ := by
  cases o with
  | none => simp [add7] at h
  | some k => simp [add7] at h; exact ⟨k, rfl, h.symm⟩
theorem add7_x {p : Tree} {o : Option Sx} {st st' : Sst} (h : add7 .x p o st = some st') : nameB p.text.toList = true ∧ st' = ⟨p.text, st.ty, st.ks⟩ := by
  rw [add7] at h; split at h
  · rename_i e; simp at h; exact ⟨e, h.symm⟩
  · simp at h
theorem add7_s {p : Tree} {o : Option Sx} {st st' : Sst} (h : add7 .s p o st = some st') : ∃ s, p.size ≤ 12 ∧ p.sty = some s ∧ st' = ⟨st.nm, some s, st.ks⟩ := by
  rw [add7, stLim] at h
  by_cases hp : p.size ≤ 12
  · rw [if_pos hp] at h
    cases hs : p.sty with
    | none => rw [hs] at h; simp at h
    | some s => rw [hs] at h; simp at h; exact ⟨s, hp, rfl, h.symm⟩
  · rw [if_neg hp] at h; simp at h
theorem addL_nil_inv {qs : List Tree} {os : List (Option Sx)} {st st' : Sst} (h : addL [] qs os st = some st') : qs = [] ∧ st' = st := by
  cases qs with
  | nil => cases os with
    | nil => simp [addL] at h; exact ⟨rfl, h.symm⟩
    | cons o os => simp [addL] at h
  | cons q qs => simp [addL] at h
theorem addL_cons_inv {g : Fg} {gs : List Fg} {qs : List Tree} {os : List (Option Sx)} {st st' : Sst} (h : addL (g :: gs) qs os st = some st') :
    ∃ p ps o os' st1, qs = p :: ps ∧ os = o :: os' ∧ add7 g p o st = some st1 ∧ addL gs ps os' st1 = some st' := by
  cases qs with
  | nil => simp [addL] at h
  | cons p ps => cases os with
    | nil => simp [addL] at h
    | cons o os =>
      rw [addL_cons] at h
      cases ha : add7 g p o st with
      | none => rw [ha] at h; simp at h
      | some st1 => rw [ha] at h; exact ⟨p, ps, o, os, st1, rfl, rfl, ha, h⟩
/-- What is gathered by the form of a head is an expression's. -/
theorem mkSx_ok {l : List UInt8} {f : List Fg} {qs : List Tree} {os : List (Option Sx)} {st : Sst} (hf : frm l = some f) (h : addL f qs os Sst.none = some st) :
    ∃ e, mkSx l st = some e ∧ e.head.toList = l ∧ e.atom = ByteArray.empty ∧ e.nm = st.nm ∧ e.ty = st.ty ∧ e.kids = st.ks := by
  rcases frm_cases hf with ⟨rfl, rfl⟩ | ⟨rfl, rfl⟩ | ⟨rfl, rfl⟩ | ⟨rfl, rfl⟩ | ⟨rfl, rfl⟩ | ⟨rfl, rfl⟩ | ⟨rfl, rfl⟩ | ⟨rfl, rfl⟩ | ⟨rfl, rfl⟩
  · obtain ⟨p1, ps1, o1, os1, st1, rfl, rfl, h1, h⟩ := addL_cons_inv h
    obtain ⟨p2, ps2, o2, os2, st2, rfl, rfl, h2, h⟩ := addL_cons_inv h
    obtain ⟨p3, ps3, o3, os3, st3, rfl, rfl, h3, h⟩ := addL_cons_inv h
    obtain ⟨rfl, rfl⟩ := addL_nil_inv h
    obtain ⟨_, rfl⟩ := add7_x h1
    obtain ⟨s, _, _, rfl⟩ := add7_s h2
    obtain ⟨k, _, rfl⟩ := add7_e h3
    exact ⟨.lam p1.text s k, by simp [mkSx, hLam_l, Sst.none], rfl, rfl, rfl, rfl, rfl⟩
  · obtain ⟨p1, ps1, o1, os1, st1, rfl, rfl, h1, h⟩ := addL_cons_inv h
    obtain ⟨p2, ps2, o2, os2, st2, rfl, rfl, h2, h⟩ := addL_cons_inv h
    obtain ⟨p3, ps3, o3, os3, st3, rfl, rfl, h3, h⟩ := addL_cons_inv h
    obtain ⟨rfl, rfl⟩ := addL_nil_inv h
    obtain ⟨d, _, rfl⟩ := add7_e h1
    obtain ⟨e, _, rfl⟩ := add7_e h2
    obtain ⟨k, _, rfl⟩ := add7_e h3
    exact ⟨.iff d e k, by simp [mkSx, hIf_l, Sst.none], rfl, rfl, rfl, rfl, rfl⟩
  · obtain ⟨p1, ps1, o1, os1, st1, rfl, rfl, h1, h⟩ := addL_cons_inv h
    obtain ⟨p2, ps2, o2, os2, st2, rfl, rfl, h2, h⟩ := addL_cons_inv h
    obtain ⟨rfl, rfl⟩ := addL_nil_inv h
    obtain ⟨d, _, rfl⟩ := add7_e h1
    obtain ⟨e, _, rfl⟩ := add7_e h2
    exact ⟨.app d e, by simp [mkSx, hApp_l, Sst.none], rfl, rfl, rfl, rfl, rfl⟩
  · obtain ⟨p1, ps1, o1, os1, st1, rfl, rfl, h1, h⟩ := addL_cons_inv h
    obtain ⟨p2, ps2, o2, os2, st2, rfl, rfl, h2, h⟩ := addL_cons_inv h
    obtain ⟨rfl, rfl⟩ := addL_nil_inv h
    obtain ⟨d, _, rfl⟩ := add7_e h1
    obtain ⟨e, _, rfl⟩ := add7_e h2
    exact ⟨.pair d e, by simp [mkSx, hPair_l, Sst.none], rfl, rfl, rfl, rfl, rfl⟩
  · obtain ⟨p1, ps1, o1, os1, st1, rfl, rfl, h1, h⟩ := addL_cons_inv h
    obtain ⟨rfl, rfl⟩ := addL_nil_inv h
    obtain ⟨d, _, rfl⟩ := add7_e h1
    exact ⟨.fst d, by simp [mkSx, hFst_l, Sst.none], rfl, rfl, rfl, rfl, rfl⟩
  · obtain ⟨p1, ps1, o1, os1, st1, rfl, rfl, h1, h⟩ := addL_cons_inv h
    obtain ⟨rfl, rfl⟩ := addL_nil_inv h
    obtain ⟨d, _, rfl⟩ := add7_e h1
    exact ⟨.snd d, by simp [mkSx, hSnd_l, Sst.none], rfl, rfl, rfl, rfl, rfl⟩
  · obtain ⟨p1, ps1, o1, os1, st1, rfl, rfl, h1, h⟩ := addL_cons_inv h
    obtain ⟨rfl, rfl⟩ := addL_nil_inv h
    obtain ⟨d, _, rfl⟩ := add7_e h1
    exact ⟨.put d, by simp [mkSx, hPut_l, Sst.none], rfl, rfl, rfl, rfl, rfl⟩
  · obtain ⟨rfl, rfl⟩ := addL_nil_inv h
    exact ⟨.get, by simp [mkSx, hGet_l, Sst.none], rfl, rfl, rfl, rfl, rfl⟩
  · obtain ⟨p1, ps1, o1, os1, st1, rfl, rfl, h1, h⟩ := addL_cons_inv h
    obtain ⟨rfl, rfl⟩ := addL_nil_inv h
    obtain ⟨s, _, _, rfl⟩ := add7_s h1
    exact ⟨.fail s, by simp [mkSx, hFail_l, Sst.none], rfl, rfl, rfl, rfl, rfl⟩
theorem text_more {h : Tree} {c : UInt8} {l : List UInt8} (e : h.text.toList = c :: l) : h = .atom ⟨(c :: l).toArray⟩ := by
  cases h with
  | atom s => rw [Tree.text] at e; rw [bytes_of_toList e]
  | node ps => rw [Tree.text, empty_toList] at e; simp at e
/-- A tree that is an expression is its tree. -/
theorem sx_tree_n : ∀ (n : Nat) (t : Tree) (e : Sx), t.wt ≤ n → t.sx = some e → t = e.tree := by
  intro n; induction n with
  | zero => intro t e h; have := wt_pos t; omega
  | succ n ih =>
    intro t e hn h
    cases t with
    | atom s =>
      rw [Tree.sx, atomSx] at h
      split at h
      · simp at h; subst h; rfl
      · split at h
        · simp at h; subst h; rfl
        · simp at h
    | node ps =>
      cases ps with
      | nil => rw [Tree.sx, Tree.sxs] at h; simp [sxParts] at h
      | cons q qs =>
        cases hf : frm q.text.toList with
        | none => rw [sx_none hf] at h; simp at h
        | some f =>
          rw [sx_some hf] at h
          cases ha : addL f qs (qs.map Tree.sx) Sst.none with
          | none => rw [ha] at h; simp at h
          | some st =>
            rw [ha] at h
            simp only [Option.bind_some] at h
            rw [Tree.wt] at hn
            rcases frm_cases hf with ⟨hl, rfl⟩ | ⟨hl, rfl⟩ | ⟨hl, rfl⟩ | ⟨hl, rfl⟩ | ⟨hl, rfl⟩ | ⟨hl, rfl⟩ | ⟨hl, rfl⟩ | ⟨hl, rfl⟩ | ⟨hl, rfl⟩
            · have hqt := hl
              rw [hl] at h
              rw [hLam_l] at h hqt
              obtain ⟨p1, ps1, o1, os1, st1, hq1, ho1, h1, ha⟩ := addL_cons_inv ha
              subst hq1
              rw [List.map_cons, List.cons.injEq] at ho1
              obtain ⟨hx1, rfl⟩ := add7_x h1
              rw [← ho1.2] at ha
              obtain ⟨p2, ps2, o2, os2, st2, hq2, ho2, h2, ha⟩ := addL_cons_inv ha
              subst hq2
              rw [List.map_cons, List.cons.injEq] at ho2
              obtain ⟨s2, hz2, hs2, rfl⟩ := add7_s h2
              rw [← ho2.2] at ha
              obtain ⟨p3, ps3, o3, os3, st3, hq3, ho3, h3, ha⟩ := addL_cons_inv ha
              subst hq3
              rw [List.map_cons, List.cons.injEq] at ho3
              obtain ⟨k3, hk3, rfl⟩ := add7_e h3
              rw [← ho3.2] at ha
              obtain ⟨rfl, rfl⟩ := addL_nil_inv ha
              simp only [Tree.wts] at hn
              have t1 : p1 = .atom p1.text := by
                cases p1 with
                | atom s => rfl
                | node ps => rw [Tree.text, empty_toList] at hx1; simp [nameB] at hx1
              have t2 := sty_tree p2 s2 hs2
              have t3 := ih p3 k3 (by omega) (by rw [ho3.1, hk3])
              simp [mkSx, Sst.none] at h
              subst h
              rw [text_more hqt, t1, t2, t3]; rfl
            · have hqt := hl
              rw [hl] at h
              rw [hIf_l] at h hqt
              obtain ⟨p1, ps1, o1, os1, st1, hq1, ho1, h1, ha⟩ := addL_cons_inv ha
              subst hq1
              rw [List.map_cons, List.cons.injEq] at ho1
              obtain ⟨k1, hk1, rfl⟩ := add7_e h1
              rw [← ho1.2] at ha
              obtain ⟨p2, ps2, o2, os2, st2, hq2, ho2, h2, ha⟩ := addL_cons_inv ha
              subst hq2
              rw [List.map_cons, List.cons.injEq] at ho2
              obtain ⟨k2, hk2, rfl⟩ := add7_e h2
              rw [← ho2.2] at ha
              obtain ⟨p3, ps3, o3, os3, st3, hq3, ho3, h3, ha⟩ := addL_cons_inv ha
              subst hq3
              rw [List.map_cons, List.cons.injEq] at ho3
              obtain ⟨k3, hk3, rfl⟩ := add7_e h3
              rw [← ho3.2] at ha
              obtain ⟨rfl, rfl⟩ := addL_nil_inv ha
              simp only [Tree.wts] at hn
              have t1 := ih p1 k1 (by omega) (by rw [ho1.1, hk1])
              have t2 := ih p2 k2 (by omega) (by rw [ho2.1, hk2])
              have t3 := ih p3 k3 (by omega) (by rw [ho3.1, hk3])
              simp [mkSx, Sst.none] at h
              subst h
              rw [text_more hqt, t1, t2, t3]; rfl
            · have hqt := hl
              rw [hl] at h
              rw [hApp_l] at h hqt
              obtain ⟨p1, ps1, o1, os1, st1, hq1, ho1, h1, ha⟩ := addL_cons_inv ha
              subst hq1
              rw [List.map_cons, List.cons.injEq] at ho1
              obtain ⟨k1, hk1, rfl⟩ := add7_e h1
              rw [← ho1.2] at ha
              obtain ⟨p2, ps2, o2, os2, st2, hq2, ho2, h2, ha⟩ := addL_cons_inv ha
              subst hq2
              rw [List.map_cons, List.cons.injEq] at ho2
              obtain ⟨k2, hk2, rfl⟩ := add7_e h2
              rw [← ho2.2] at ha
              obtain ⟨rfl, rfl⟩ := addL_nil_inv ha
              simp only [Tree.wts] at hn
              have t1 := ih p1 k1 (by omega) (by rw [ho1.1, hk1])
              have t2 := ih p2 k2 (by omega) (by rw [ho2.1, hk2])
              simp [mkSx, Sst.none] at h
              subst h
              rw [text_more hqt, t1, t2]; rfl
            · have hqt := hl
              rw [hl] at h
              rw [hPair_l] at h hqt
              obtain ⟨p1, ps1, o1, os1, st1, hq1, ho1, h1, ha⟩ := addL_cons_inv ha
              subst hq1
              rw [List.map_cons, List.cons.injEq] at ho1
              obtain ⟨k1, hk1, rfl⟩ := add7_e h1
              rw [← ho1.2] at ha
              obtain ⟨p2, ps2, o2, os2, st2, hq2, ho2, h2, ha⟩ := addL_cons_inv ha
              subst hq2
              rw [List.map_cons, List.cons.injEq] at ho2
              obtain ⟨k2, hk2, rfl⟩ := add7_e h2
              rw [← ho2.2] at ha
              obtain ⟨rfl, rfl⟩ := addL_nil_inv ha
              simp only [Tree.wts] at hn
              have t1 := ih p1 k1 (by omega) (by rw [ho1.1, hk1])
              have t2 := ih p2 k2 (by omega) (by rw [ho2.1, hk2])
              simp [mkSx, Sst.none] at h
              subst h
              rw [text_more hqt, t1, t2]; rfl
            · have hqt := hl
              rw [hl] at h
              rw [hFst_l] at h hqt
              obtain ⟨p1, ps1, o1, os1, st1, hq1, ho1, h1, ha⟩ := addL_cons_inv ha
              subst hq1
              rw [List.map_cons, List.cons.injEq] at ho1
              obtain ⟨k1, hk1, rfl⟩ := add7_e h1
              rw [← ho1.2] at ha
              obtain ⟨rfl, rfl⟩ := addL_nil_inv ha
              simp only [Tree.wts] at hn
              have t1 := ih p1 k1 (by omega) (by rw [ho1.1, hk1])
              simp [mkSx, Sst.none] at h
              subst h
              rw [text_more hqt, t1]; rfl
            · have hqt := hl
              rw [hl] at h
              rw [hSnd_l] at h hqt
              obtain ⟨p1, ps1, o1, os1, st1, hq1, ho1, h1, ha⟩ := addL_cons_inv ha
              subst hq1
              rw [List.map_cons, List.cons.injEq] at ho1
              obtain ⟨k1, hk1, rfl⟩ := add7_e h1
              rw [← ho1.2] at ha
              obtain ⟨rfl, rfl⟩ := addL_nil_inv ha
              simp only [Tree.wts] at hn
              have t1 := ih p1 k1 (by omega) (by rw [ho1.1, hk1])
              simp [mkSx, Sst.none] at h
              subst h
              rw [text_more hqt, t1]; rfl
            · have hqt := hl
              rw [hl] at h
              rw [hPut_l] at h hqt
              obtain ⟨p1, ps1, o1, os1, st1, hq1, ho1, h1, ha⟩ := addL_cons_inv ha
              subst hq1
              rw [List.map_cons, List.cons.injEq] at ho1
              obtain ⟨k1, hk1, rfl⟩ := add7_e h1
              rw [← ho1.2] at ha
              obtain ⟨rfl, rfl⟩ := addL_nil_inv ha
              simp only [Tree.wts] at hn
              have t1 := ih p1 k1 (by omega) (by rw [ho1.1, hk1])
              simp [mkSx, Sst.none] at h
              subst h
              rw [text_more hqt, t1]; rfl
            · have hqt := hl
              rw [hl] at h
              rw [hGet_l] at h hqt
              obtain ⟨rfl, rfl⟩ := addL_nil_inv ha
              simp only [Tree.wts] at hn
              simp [mkSx, Sst.none] at h
              subst h
              rw [text_more hqt]; rfl
            · have hqt := hl
              rw [hl] at h
              rw [hFail_l] at h hqt
              obtain ⟨p1, ps1, o1, os1, st1, hq1, ho1, h1, ha⟩ := addL_cons_inv ha
              subst hq1
              rw [List.map_cons, List.cons.injEq] at ho1
              obtain ⟨s1, hz1, hs1, rfl⟩ := add7_s h1
              rw [← ho1.2] at ha
              obtain ⟨rfl, rfl⟩ := addL_nil_inv ha
              simp only [Tree.wts] at hn
              have t1 := sty_tree p1 s1 hs1
              simp [mkSx, Sst.none] at h
              subst h
              rw [text_more hqt, t1]; rfl
theorem sx_tree {t : Tree} {e : Sx} (h : t.sx = some e) : t = e.tree := sx_tree_n _ t e (Nat.le_refl _) h
/-- What a text is as a source expression. -/
def readSx (s : ByteArray) : Option Sx :=
  match parse s with
  | some t => if t.size ≤ 150 then t.sx else none
  | none => none
/-- The same as a tree. -/
def sxTree (s : ByteArray) : Option Tree :=
  match parse s with
  | some t => if t.sx.isSome ∧ t.size ≤ 150 then some t else none
  | none => none
theorem sxTree_eq (s : ByteArray) : sxTree s = (readSx s).map Sx.tree := by
  unfold sxTree readSx
  cases hp : parse s with
  | none => rfl
  | some t =>
    simp only
    by_cases h12 : t.size ≤ 150
    · rw [if_pos h12]
      cases ht : t.sx with
      | none => rw [if_neg (by simp)]; rfl
      | some x => rw [if_pos ⟨rfl, h12⟩, Option.map_some, ← sx_tree ht]
    · rw [if_neg (fun h => h12 h.2), if_neg h12]; rfl
theorem readSx_inv {s : ByteArray} {e : Sx} (h : readSx s = some e) : parse s = some e.tree ∧ e.tree.size ≤ 150 ∧ e.tree.sx = some e := by
  unfold readSx at h
  cases hp : parse s with
  | none => rw [hp] at h; simp at h
  | some t =>
    rw [hp] at h; simp only at h
    split at h
    · rename_i h12
      have ht := sx_tree h
      rw [ht] at h h12 ⊢
      exact ⟨rfl, h12, h⟩
    · simp at h
theorem sx_go {q : Tree} {qs : List Tree} {f : List Fg} (h : frm q.text.toList = some f) {R : Option Sst} (hR : addL f qs (qs.map Tree.sx) Sst.none = R) : (Tree.node (q :: qs)).sx = R.bind (mkSx q.text.toList) := by rw [sx_some h, hR]
theorem sx_isSome {q : Tree} {qs : List Tree} {f : List Fg} (h : frm q.text.toList = some f) : (Tree.node (q :: qs)).sx.isSome = (addL f qs (qs.map Tree.sx) Sst.none).isSome := by
  rw [sx_some h]
  cases ha : addL f qs (qs.map Tree.sx) Sst.none with
  | none => rfl
  | some st => obtain ⟨e, he, _⟩ := mkSx_ok h ha; show (mkSx _ st).isSome = true; rw [he]; rfl
theorem text_le (p : Tree) : p.text.size ≤ p.write.length := by
  cases p with
  | atom s => show s.size ≤ s.data.toList.length; rw [size_toList, Go.ByteArray.toList_eq]; exact Nat.le_refl _
  | node ps => exact Nat.zero_le _
theorem part_le {ps : List Tree} {i : Nat} {p : Tree} (h : ps[i]? = some p) : p.write.length ≤ (Tree.node ps).write.length := by
  have := join_part ps i p h
  rw [write_node]; simp; omega
theorem frm_len {l : List UInt8} {f : List Fg} (h : frm l = some f) : f.length ≤ 3 := by
  rcases frm_cases h with ⟨_, e⟩ | ⟨_, e⟩ | ⟨_, e⟩ | ⟨_, e⟩ | ⟨_, e⟩ | ⟨_, e⟩ | ⟨_, e⟩ | ⟨_, e⟩ | ⟨_, e⟩ <;> rw [e] <;> simp
theorem frm_nil {l : List UInt8} (h : frm l = some []) : l = [103, 101, 116] := by
  rcases frm_cases h with ⟨_, e⟩ | ⟨_, e⟩ | ⟨_, e⟩ | ⟨_, e⟩ | ⟨_, e⟩ | ⟨_, e⟩ | ⟨_, e⟩ | ⟨e, _⟩ | ⟨_, e⟩
  all_goals first | (rw [e, hGet_l]) | simp at e
end Go.Proofs.YtinlibkkbjfmeaaDoor
