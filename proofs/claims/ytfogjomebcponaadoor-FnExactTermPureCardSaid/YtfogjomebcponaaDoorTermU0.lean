/- Terms without effects; shapes. Pure. -/
import Derived.Test.YtfogjomebcponaaDoorTermA
namespace Go.Proofs.YtfogjomebcponaaDoor
open Go.RowKit

/-- A head without effects. -/
def pureHd (h : List UInt8) : Bool := !(decide (h = [103, 101, 116]) || decide (h = [112, 117, 116]) || decide (h = [102, 97, 105, 108]) || decide (h = [116, 114, 121]))
mutual
def Tm.pure : Tm → Bool
  | .mk hd _ _ _ _ ks => pureHd hd.toList && Tm.pures ks
def Tm.pures : List Tm → Bool
  | [] => true
  | k :: ks => k.pure && Tm.pures ks
end
mutual
def Tree.pure : Tree → Bool
  | .atom _ => true
  | .node [] => true
  | .node (h :: ps) => pureHd h.text.toList && Tree.pures (shape h.text.toList) ps
def Tree.pures : List Sg → List Tree → Bool
  | [], _ => true
  | _ :: _, [] => true
  | c :: cs, p :: ps => (!c.isK || Tree.pure p) && Tree.pures cs ps
end
theorem pures_append (a b : List Tm) : Tm.pures (a ++ b) = (Tm.pures a && Tm.pures b) := by
  induction a with
  | nil => rfl
  | cons x a ih => simp only [List.cons_append, Tm.pures, ih, Bool.and_assoc]
theorem parts_pure (ar : List ByteArray) : ∀ (cs : List Sg) (ps : List Tree) (st st' : St), (∀ p ∈ ps, ∀ ar m, p.tm ar = some m → m.pure = p.pure) → cs.length = ps.length →
    Tree.parts ar cs ps st = some st' → Tm.pures st'.kids = (Tm.pures st.kids && Tree.pures cs ps)
  | [], [], st, st', _, _, h => by simp [Tree.parts] at h; subst h; simp [Tree.pures]
  | c :: cs, p :: ps, st, st', ih, hl, h => by
    have ih' : ∀ p ∈ ps, ∀ ar m, p.tm ar = some m → m.pure = p.pure := fun q hq => ih q (List.mem_cons_of_mem _ hq)
    have hl' : cs.length = ps.length := by simpa using hl
    have kid : ∀ v, c.isK = true → ∀ st1, addK v (p.tm (ar ++ st.binds)) st = some st1 → Tree.parts ar cs ps st1 = some st' → Tm.pures st'.kids = (Tm.pures st.kids && Tree.pures (c :: cs) (p :: ps)) := by
      intro v hk st1 h1 h2
      obtain ⟨m, ht, h3⟩ := addK_inv h1
      rw [parts_pure ar cs ps st1 st' ih' hl' h2, h3]
      have hf := ih p (List.mem_cons_self ..) _ _ ht
      simp only [pures_append, Tm.pures, Bool.and_true, Tree.pures, hk, Bool.not_true, Bool.false_or, Bool.and_assoc, hf]
    have other : c.isK = false → ∀ st1, st1.kids = st.kids → Tree.parts ar cs ps st1 = some st' → Tm.pures st'.kids = (Tm.pures st.kids && Tree.pures (c :: cs) (p :: ps)) := by
      intro hk st1 h1 h2
      rw [parts_pure ar cs ps st1 st' ih' hl' h2, h1]
      simp only [Tree.pures, hk, Bool.not_false, Bool.true_or, Bool.true_and]
    cases c with
    | X =>
      rw [Tree.parts] at h
      cases h1 : addX p.text st with
      | none => rw [h1] at h; simp at h
      | some st1 => rw [h1] at h; exact other rfl st1 (by rw [(addX_inv h1).2]) h
    | A =>
      rw [Tree.parts] at h
      cases h1 : addT true p st with
      | none => rw [h1] at h; simp at h
      | some st1 => rw [h1] at h; obtain ⟨ty, _, h2⟩ := addT_inv h1; exact other rfl st1 (by rw [h2]) h
    | C =>
      rw [Tree.parts] at h
      cases h1 : addT false p st with
      | none => rw [h1] at h; simp at h
      | some st1 => rw [h1] at h; obtain ⟨ty, _, h2⟩ := addT_inv h1; exact other rfl st1 (by rw [h2]) h
    | V =>
      rw [Tree.parts] at h
      cases h1 : addK true (p.tm (ar ++ st.binds)) st with
      | none => rw [h1] at h; simp at h
      | some st1 => rw [h1] at h; exact kid true rfl st1 h1 h
    | M =>
      rw [Tree.parts] at h
      cases h1 : addK false (p.tm (ar ++ st.binds)) st with
      | none => rw [h1] at h; simp at h
      | some st1 => rw [h1] at h; exact kid false rfl st1 h1 h
theorem pureHd_name : pureHd strName.toList = true := by rw [strName_toList]; rfl
theorem pureHd_bit : pureHd strBit.toList = true := by rw [strBit_toList]; rfl
theorem tm_pure (t : Tree) (ar : List ByteArray) (m : Tm) (h : t.tm ar = some m) : m.pure = t.pure := by
  match t with
  | .atom s =>
    rw [Tree.tm, atomTm] at h
    split at h
    · simp at h; subst h; rw [Tm.pure, pureHd_bit]; rfl
    · split at h
      · simp at h; subst h; rw [Tm.pure, pureHd_name]; rfl
      · simp at h
  | .node [] => rw [Tree.tm] at h; simp at h
  | .node (q :: ps) =>
    obtain ⟨st, h1, h2, h3, rfl⟩ := tm_node h
    have := parts_pure ar _ ps St.none st (fun p hp ar m => tm_pure p ar m) h2 h3
    rw [Tm.pure, Tree.pure, this]
    simp [St.none, Tm.pures]
termination_by t
decreasing_by
  have := List.sizeOf_lt_of_mem hp
  simp; omega
theorem shape_four (h : List UInt8) : (shape h).length ≤ 4 := by
  rcases shape_mem h with ⟨_, e⟩ | ⟨_, e⟩
  · rw [e]; decide
  · rcases e with e | e | e | e | e | e | e | e | e | e | e | e <;> (rw [e]; decide)
end Go.Proofs.YtfogjomebcponaaDoor
