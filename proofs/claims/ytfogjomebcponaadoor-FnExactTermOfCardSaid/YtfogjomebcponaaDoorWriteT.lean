/- A term's text as the program writes it: write, text. -/
import Derived.Test.YtfogjomebcponaaDoorBldW
import Derived.Test.YtfogjomebcponaaDoorNodeP
import Derived.Test.YtfogjomebcponaaDoorTexts
import Derived.Test.YtfogjomebcponaaDoorShapeF
import Derived.Lib.ConvBytes
import Derived.Deep.QuietTactic
import Derived.BigQuiet
namespace Go.Proofs.YtfogjomebcponaaDoor
open Go.RowKit

def Sg.isX : Sg → Bool
  | .X => true
  | _ => false
mutual
/-- A term whose parts fit its head. -/
def Tm.fit : Tm → Prop
  | .mk hd a _ bs ty ks => (a.toList = [] → bs.length = (shape hd.toList).countP Sg.isX ∧ ks.length = (shape hd.toList).countP Sg.isK ∧ ((shape hd.toList).countP Sg.isT ≠ 0 → ty ≠ none)) ∧ Tm.fits ks
def Tm.fits : List Tm → Prop
  | [] => True
  | k :: ks => k.fit ∧ Tm.fits ks
end
theorem tmfits_get : ∀ (ks : List Tm) (i : Nat) (k : Tm), Tm.fits ks → ks[i]? = some k → k.fit
  | [], i, k, _, h => by simp at h
  | x :: ks, i, k, hf, h => by
    rw [Tm.fits] at hf
    cases i with
    | zero => simp at h; subst h; exact hf.1
    | succ i => exact tmfits_get ks i k hf.2 (by simpa using h)
theorem tmfits_append (a b : List Tm) : Tm.fits (a ++ b) ↔ Tm.fits a ∧ Tm.fits b := by
  induction a with
  | nil => simp [Tm.fits]
  | cons x a ih => simp only [List.cons_append, Tm.fits, ih, and_assoc]
theorem writes_get {ks : List Tm} {i : Nat} {k : Tm} (h : ks[i]? = some k) : (Tm.writes ks)[i]? = some k.write := by
  induction ks generalizing i with
  | nil => simp at h
  | cons x ks ih =>
    cases i with
    | zero => simp at h; subst h; simp [Tm.writes]
    | succ i => simpa [Tm.writes] using ih (by simpa using h)
theorem writes_drop (ks : List Tm) (i : Nat) : (Tm.writes ks).drop i = Tm.writes (ks.drop i) := by
  induction ks generalizing i with
  | nil => simp [Tm.writes]
  | cons x ks ih =>
    cases i with
    | zero => simp
    | succ i => simpa [Tm.writes] using ih i
/-- A tree's term fits. -/
theorem parts_fit (ar : List ByteArray) : ∀ (cs : List Sg) (ps : List Tree) (st st' : St), (∀ p ∈ ps, ∀ ar m, p.tm ar = some m → m.fit) → cs.length = ps.length → Tm.fits st.kids →
    Tree.parts ar cs ps st = some st' → st'.binds.length = st.binds.length + cs.countP Sg.isX ∧ st'.kids.length = st.kids.length + cs.countP Sg.isK ∧ (cs.countP Sg.isT ≠ 0 → st'.ty ≠ none) ∧ (st.ty ≠ none → st'.ty ≠ none) ∧ Tm.fits st'.kids
  | [], [], st, st', _, _, hf, h => by simp [Tree.parts] at h; subst h; simp [hf]
  | c :: cs, p :: ps, st, st', ih, hl, hf, h => by
    have ih' : ∀ p ∈ ps, ∀ ar m, p.tm ar = some m → m.fit := fun q hq => ih q (List.mem_cons_of_mem _ hq)
    have hl' : cs.length = ps.length := by simpa using hl
    cases c with
    | X =>
      rw [Tree.parts] at h
      cases h1 : addX p.text st with
      | none => rw [h1] at h; simp at h
      | some st1 =>
        rw [h1] at h
        have h2 := (addX_inv h1).2
        obtain ⟨e1, e2, e3, e4, e5⟩ := parts_fit ar cs ps st1 st' ih' hl' (by rw [h2]; exact hf) h
        rw [h2] at e1 e2 e4
        simp only [List.countP_cons, Sg.isX, Sg.isK, Sg.isT, List.length_append, List.length_cons, List.length_nil] at *
        exact ⟨by simp at *; omega, by simp at *; omega, by simpa using e3, e4, e5⟩
    | A =>
      rw [Tree.parts] at h
      cases h1 : addT true p st with
      | none => rw [h1] at h; simp at h
      | some st1 =>
        rw [h1] at h
        obtain ⟨ty, _, h2⟩ := addT_inv h1
        obtain ⟨e1, e2, e3, e4, e5⟩ := parts_fit ar cs ps st1 st' ih' hl' (by rw [h2]; exact hf) h
        rw [h2] at e1 e2 e4
        have e6 := e4 (by simp)
        simp only [List.countP_cons, Sg.isX, Sg.isK, Sg.isT] at *
        exact ⟨by simp at *; omega, by simp at *; omega, fun _ => e6, fun _ => e6, e5⟩
    | C =>
      rw [Tree.parts] at h
      cases h1 : addT false p st with
      | none => rw [h1] at h; simp at h
      | some st1 =>
        rw [h1] at h
        obtain ⟨ty, _, h2⟩ := addT_inv h1
        obtain ⟨e1, e2, e3, e4, e5⟩ := parts_fit ar cs ps st1 st' ih' hl' (by rw [h2]; exact hf) h
        rw [h2] at e1 e2 e4
        have e6 := e4 (by simp)
        simp only [List.countP_cons, Sg.isX, Sg.isK, Sg.isT] at *
        exact ⟨by simp at *; omega, by simp at *; omega, fun _ => e6, fun _ => e6, e5⟩
    | V =>
      rw [Tree.parts] at h
      cases h1 : addK true (p.tm (ar ++ st.binds)) st with
      | none => rw [h1] at h; simp at h
      | some st1 =>
        rw [h1] at h
        obtain ⟨m, ht, h2⟩ := addK_inv h1
        have hm := ih p (List.mem_cons_self ..) _ _ ht
        obtain ⟨e1, e2, e3, e4, e5⟩ := parts_fit ar cs ps st1 st' ih' hl' (by rw [h2]; exact (tmfits_append _ _).2 ⟨hf, hm, trivial⟩) h
        rw [h2] at e1 e2 e4
        simp only [List.countP_cons, Sg.isX, Sg.isK, Sg.isT, List.length_append, List.length_cons, List.length_nil] at *
        exact ⟨by simp at *; omega, by simp at *; omega, by simpa using e3, e4, e5⟩
    | M =>
      rw [Tree.parts] at h
      cases h1 : addK false (p.tm (ar ++ st.binds)) st with
      | none => rw [h1] at h; simp at h
      | some st1 =>
        rw [h1] at h
        obtain ⟨m, ht, h2⟩ := addK_inv h1
        have hm := ih p (List.mem_cons_self ..) _ _ ht
        obtain ⟨e1, e2, e3, e4, e5⟩ := parts_fit ar cs ps st1 st' ih' hl' (by rw [h2]; exact (tmfits_append _ _).2 ⟨hf, hm, trivial⟩) h
        rw [h2] at e1 e2 e4
        simp only [List.countP_cons, Sg.isX, Sg.isK, Sg.isT, List.length_append, List.length_cons, List.length_nil] at *
        exact ⟨by simp at *; omega, by simp at *; omega, by simpa using e3, e4, e5⟩
theorem tm_fit (t : Tree) (ar : List ByteArray) (m : Tm) (h : t.tm ar = some m) : m.fit := by
  match t with
  | .atom s =>
    rw [Tree.tm, atomTm] at h
    split at h
    · rename_i c; simp at h; subst h
      rw [Tm.fit]; exact ⟨fun e => by rcases c with c | c <;> (rw [c] at e; cases e), trivial⟩
    · split at h
      · rename_i c; simp at h; subst h
        rw [Tm.fit]; exact ⟨fun e => absurd e (nameB_ne c), trivial⟩
      · simp at h
  | .node [] => rw [Tree.tm] at h; simp at h
  | .node (q :: ps) =>
    obtain ⟨st, h1, h2, h3, rfl⟩ := tm_node h
    obtain ⟨e1, e2, e3, e4, e5⟩ := parts_fit ar _ ps St.none st (fun p hp ar m => tm_fit p ar m) h2 trivial h3
    rw [Tm.fit]
    exact ⟨fun _ => ⟨by rw [e1]; simp [St.none], by rw [e2]; simp [St.none], e3⟩, e5⟩
termination_by t
decreasing_by
  have := List.sizeOf_lt_of_mem hp
  simp; omega
theorem strCells_cells (s : ByteArray) : Lib.strCells s = Lib.byteCells s.data.toList := rfl
end Go.Proofs.YtfogjomebcponaaDoor
