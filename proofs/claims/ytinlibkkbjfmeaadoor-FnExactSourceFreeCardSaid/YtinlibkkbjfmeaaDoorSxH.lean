/- Free names of source expressions, plainly: as the program gathers them, as the model does. -/
import Derived.Test.YtinlibkkbjfmeaaDoorSxP
import Derived.Test.YtinlibkkbjfmeaaDoorSxFp
namespace Go.Proofs.YtinlibkkbjfmeaaDoor
open Go.RowKit

/-- Atoms are what they are kept as. -/
def Sx.wf : Sx → Prop
  | .name a => nameB a.toList = true
  | .bit a => nameB a.toList = false
  | .lam x _ e => nameB x.toList = true ∧ e.wf
  | .app d e => d.wf ∧ e.wf
  | .iff d e g => d.wf ∧ e.wf ∧ g.wf
  | .pair d e => d.wf ∧ e.wf
  | .fst e => e.wf
  | .snd e => e.wf
  | .get => True
  | .put e => e.wf
  | .fail _ => True
theorem sx_wf_n : ∀ (n : Nat) (t : Tree) (e : Sx), t.wt ≤ n → t.sx = some e → e.wf := by
  intro n; induction n with
  | zero => intro t e h; have := wt_pos t; omega
  | succ n ih =>
    intro t e hn h
    cases t with
    | atom s =>
      rw [Tree.sx, atomSx] at h
      split at h
      · rename_i hb
        simp at h; subst h
        show nameB s.toList = false
        rcases hb with hb | hb <;> rw [hb] <;> rfl
      · split at h
        · rename_i hb; simp at h; subst h; exact hb
        · simp at h
    | node ps =>
      cases ps with
      | nil => rw [Tree.sx, Tree.sxs] at h; simp [sxParts] at h
      | cons q qs =>
        cases hf : frm q.text.toList with
        | none => rw [sx_none hf] at h; simp at h
        | some f =>
          rw [sx_some hf] at h
          cases ha : addL f qs (qs.map Tree.sx) Sst.none with
          | none => rw [ha] at h; simp at h
          | some st =>
            rw [ha] at h
            simp only [Option.bind_some] at h
            rw [Tree.wt] at hn
            -- each part is well formed
            have key : ∀ (f : List Fg) (qs : List Tree) (st st' : Sst), Tree.wts qs ≤ n → (∀ k ∈ st.ks, k.wf) → (st.nm = ByteArray.empty ∨ nameB st.nm.toList = true) → addL f qs (qs.map Tree.sx) st = some st' → (∀ k ∈ st'.ks, k.wf) ∧ (st'.nm = ByteArray.empty ∨ nameB st'.nm.toList = true) := by
              intro f; induction f with
              | nil => intro qs st st' _ h1 h2 h3; obtain ⟨_, rfl⟩ := addL_nil_inv h3; exact ⟨h1, h2⟩
              | cons g gs ihf =>
                intro qs st st' hq h1 h2 h3
                obtain ⟨p, ps, o, os, st1, rfl, ho, ha1, h4⟩ := addL_cons_inv h3
                rw [List.map_cons, List.cons.injEq] at ho
                rw [← ho.2] at h4
                simp only [Tree.wts] at hq
                refine ihf ps st1 st' (by omega) ?_ ?_ h4
                · cases g with
                  | e =>
                    obtain ⟨k, hk, rfl⟩ := add7_e ha1
                    intro k' hk'
                    rcases List.mem_append.1 hk' with hk' | hk'
                    · exact h1 k' hk'
                    · simp at hk'; subst hk'; exact ih p _ (by omega) (by rw [ho.1, hk])
                  | x => obtain ⟨_, rfl⟩ := add7_x ha1; exact h1
                  | s => obtain ⟨_, _, _, rfl⟩ := add7_s ha1; exact h1
                · cases g with
                  | e => obtain ⟨k, hk, rfl⟩ := add7_e ha1; exact h2
                  | x => obtain ⟨hx, rfl⟩ := add7_x ha1; exact Or.inr hx
                  | s => obtain ⟨_, _, _, rfl⟩ := add7_s ha1; exact h2
            have hw := wt_pos q
            simp only [Tree.wts] at hn
            obtain ⟨k1, k2⟩ := key f qs Sst.none st (by omega) (by simp [Sst.none]) (Or.inl rfl) ha
            have hlam : ∀ x s e1, mkSx q.text.toList st = some (.lam x s e1) → nameB x.toList = true := by
              intro x s e1 hm
              rcases frm_cases hf with ⟨hl, rfl⟩ | ⟨hl, rfl⟩ | ⟨hl, rfl⟩ | ⟨hl, rfl⟩ | ⟨hl, rfl⟩ | ⟨hl, rfl⟩ | ⟨hl, rfl⟩ | ⟨hl, rfl⟩ | ⟨hl, rfl⟩
              · obtain ⟨p1, ps1, o1, os1, st1, rfl, _, h1, h4⟩ := addL_cons_inv ha
                obtain ⟨p2, ps2, o2, os2, st2, rfl, _, h2, h4⟩ := addL_cons_inv h4
                obtain ⟨p3, ps3, o3, os3, st3, rfl, _, h3, h4⟩ := addL_cons_inv h4
                obtain ⟨rfl, rfl⟩ := addL_nil_inv h4
                obtain ⟨hx, rfl⟩ := add7_x h1
                obtain ⟨s', _, _, rfl⟩ := add7_s h2
                obtain ⟨k, _, rfl⟩ := add7_e h3
                rw [hl, hLam_l] at hm
                simp [mkSx, Sst.none] at hm
                rw [← hm.1]; exact hx
              all_goals
                obtain ⟨e2, he2, _, _, _, _, _⟩ := mkSx_ok hf ha
                rw [hl] at hm
                simp only [hIf_l, hApp_l, hPair_l, hFst_l, hSnd_l, hPut_l, hGet_l, hFail_l] at hm
                unfold mkSx at hm
                split at hm <;> simp at hm
            obtain ⟨e2, he2, h1, h2, h3, h4, h5⟩ := mkSx_ok hf ha
            rw [he2] at h
            simp at h; subst h
            rw [← h5] at k1
            cases e2 with
            | name a => rw [show (Sx.name a).head = hName from rfl, hName_l] at h1; rw [← h1] at hf; simp [frm] at hf
            | bit a => rw [show (Sx.bit a).head = hBit from rfl, hBit_l] at h1; rw [← h1] at hf; simp [frm] at hf
            | lam x s e1 => exact ⟨hlam x s e1 he2, k1 e1 (by simp [Sx.kids])⟩
            | app d e1 => exact ⟨k1 d (by simp [Sx.kids]), k1 e1 (by simp [Sx.kids])⟩
            | iff d e1 g => exact ⟨k1 d (by simp [Sx.kids]), k1 e1 (by simp [Sx.kids]), k1 g (by simp [Sx.kids])⟩
            | pair d e1 => exact ⟨k1 d (by simp [Sx.kids]), k1 e1 (by simp [Sx.kids])⟩
            | fst e1 => exact k1 e1 (by simp [Sx.kids])
            | snd e1 => exact k1 e1 (by simp [Sx.kids])
            | get => trivial
            | put e1 => exact k1 e1 (by simp [Sx.kids])
            | fail s => trivial
theorem sx_wf {t : Tree} {e : Sx} (h : t.sx = some e) : e.wf := sx_wf_n _ t e (Nat.le_refl _) h
/-- The names that stand free, in order, as often as they do, by the program. -/
def Sx.fnm : Sx → List ByteArray
  | .name a => [a]
  | .bit _ => []
  | .lam x _ e => e.fnm.filter fun y => !(y.toList == x.toList)
  | .app d e => d.fnm ++ e.fnm
  | .iff d e g => d.fnm ++ (e.fnm ++ g.fnm)
  | .pair d e => d.fnm ++ e.fnm
  | .fst e => e.fnm
  | .snd e => e.fnm
  | .get => []
  | .put e => e.fnm
  | .fail _ => []
theorem hasB_append (l : List ByteArray) (x : ByteArray) (s : List UInt8) : hasB (l ++ [x]) s = (hasB l s || x.toList == s) := by
  induction l with
  | nil => rw [List.nil_append, hasB_cons]; simp [hasB]
  | cons y l ih => rw [List.cons_append, hasB_cons, hasB_cons, ih, Bool.or_assoc]
theorem free_fnm (e : Sx) : e.wf → ∀ bd, e.free bd = e.fnm.filter fun y => !hasB bd y.toList := by
  induction e with
  | name a =>
    intro h bd
    have h' : nameB a.toList = true := h
    simp only [Sx.free, atF, Sx.fnm, h', true_and]
    cases hb : hasB bd a.toList <;> simp [hb]
  | bit a =>
    intro h bd
    have h' : nameB a.toList = false := h
    simp [Sx.free, atF, Sx.fnm, h']
  | lam x s e ih =>
    intro h bd
    rw [Sx.free, Sx.fnm, ih h.2, List.filter_filter]
    congr 1; funext y
    rw [hasB_append]
    have hc : (x.toList == y.toList) = (y.toList == x.toList) := by rw [Bool.eq_iff_iff, beq_iff_eq, beq_iff_eq]; exact ⟨Eq.symm, Eq.symm⟩
    rw [hc, Bool.not_or]
  | app d e ihd ihe => intro h bd; rw [Sx.free, Sx.fnm, ihd h.1, ihe h.2, List.filter_append]
  | iff d e g ihd ihe ihg => intro h bd; rw [Sx.free, Sx.fnm, ihd h.1, ihe h.2.1, ihg h.2.2, List.filter_append, List.filter_append]
  | pair d e ihd ihe => intro h bd; rw [Sx.free, Sx.fnm, ihd h.1, ihe h.2, List.filter_append]
  | fst e ih => intro h bd; rw [Sx.free, Sx.fnm, ih h]
  | snd e ih => intro h bd; rw [Sx.free, Sx.fnm, ih h]
  | get => intro _ bd; rfl
  | put e ih => intro h bd; rw [Sx.free, Sx.fnm, ih h]
  | fail s => intro _ bd; rfl
theorem free_nil {e : Sx} (h : e.wf) : e.free [] = e.fnm := by
  rw [free_fnm e h]
  apply List.filter_eq_self.2
  intro a _; rfl
end Go.Proofs.YtinlibkkbjfmeaaDoor
