/- Merged: FltW. -/
import Derived.Test.YtfogjomebcponaaGreatDoorTT12
import Derived.Test.YtfogjomebcponaaGreatDoorTT18
import Derived.Test.YtfogjomebcponaaGreatDoorTT7
import Derived.Test.YtfogjomebcponaaGreatDoorTT9
import Derived.Test.YtfogjomebcponaaGreatDoorTTSWriteT
namespace Go.Proofs.YtfogjomebcponaaGreatDoor
open Go.RowKit

theorem flts_cases (T : Tree) (h : List UInt8) (ty : Option Ty) (xs : List ByteArray) (env : List (ByteArray × Ty)) : ∀ (cs : List Sg) (ps : List Tree) (fo : Option Ty), Tree.flts T h ty xs env fo cs ps = T ∨ ∃ p ∈ ps, ∃ env', Tree.flt env' p = some (Tree.flts T h ty xs env fo cs ps)
  | [], ps, fo => by left; rw [Tree.flts]
  | c :: cs, [], fo => by left; rw [Tree.flts]
  | c :: cs, p :: ps, fo => by
    have up : ∀ fo', (Tree.flts T h ty xs env fo' cs ps = T ∨ ∃ p ∈ ps, ∃ env', Tree.flt env' p = some (Tree.flts T h ty xs env fo' cs ps)) → (Tree.flts T h ty xs env fo' cs ps = T ∨ ∃ q ∈ p :: ps, ∃ env', Tree.flt env' q = some (Tree.flts T h ty xs env fo' cs ps)) := by
      rintro fo' (e | ⟨q, hq, e⟩)
      · exact .inl e
      · exact .inr ⟨q, List.mem_cons_of_mem _ hq, e⟩
    rw [Tree.flts]
    by_cases hk : c.isK = true
    · rw [if_pos hk]
      cases hb : (if cs.isEmpty = true then bndT h ty fo else some []) with
      | none => left; rfl
      | some bts =>
        simp only
        cases hf : Tree.flt (envWith env (if cs.isEmpty = true then xs else []) bts) p with
        | none => exact up _ (flts_cases T h ty xs env cs ps _)
        | some f => right; exact ⟨p, List.mem_cons_self .., _, hf⟩
    · rw [if_neg hk]
      exact up _ (flts_cases T h ty xs env cs ps _)
theorem join_mem {ps : List Tree} {p : Tree} (h : p ∈ ps) : p.write.length ≤ (Tree.join ps).length := by
  obtain ⟨i, hi, rfl⟩ := List.mem_iff_getElem.1 h
  exact join_part ps i _ (List.getElem?_eq_getElem hi)
theorem flt_wk (t : Tree) (env : List (ByteArray × Ty)) (tr : Tree) (h : t.flt env = some tr) (hw : t.wk) : tr.wk ∧ tr.write.length ≤ t.write.length := by
  match t, h, hw with
  | .atom s, h, hw =>
    rw [Tree.flt] at h
    split at h
    · cases h
    · obtain rfl := Option.some.inj h; exact ⟨hw, Nat.le_refl _⟩
  | .node [], h, hw => rw [Tree.flt] at h; cases h
  | .node (q :: ps), h, hw =>
    rw [Tree.flt] at h
    split at h
    · cases h
    · have h' := Option.some.inj h
      rcases flts_cases (.node (q :: ps)) q.text.toList (tyIn (shape q.text.toList) ps) (xsOf (shape q.text.toList) ps) env (shape q.text.toList) ps none with e | ⟨p, hp, env', e⟩
      · rw [← h', e]; exact ⟨hw, Nat.le_refl _⟩
      · rw [h'] at e
        have hwp : p.wk := by
          rw [Tree.wk] at hw
          exact wks_mem hw.2 p (List.mem_cons_of_mem _ hp)
        have := flt_wk p env' tr e hwp
        refine ⟨this.1, Nat.le_trans this.2 ?_⟩
        rw [write_node]
        have := join_mem (List.mem_cons_of_mem q hp)
        simp; omega
termination_by t
decreasing_by
  have := List.sizeOf_lt_of_mem hp
  simp; omega
theorem wk_ne {t : Tree} (h : t.wk) : t.txt.toList ≠ [] := by
  rw [txt_toList]
  cases t with
  | atom s =>
    rw [Tree.wk] at h
    rw [Tree.write]
    intro e
    have := size_toList s
    rw [Go.ByteArray.toList_eq, e] at this
    exact h.1 this
  | node ps => rw [write_node]; simp
mutual
theorem flt_fit : ∀ (m : Tm) (env : List (ByteArray × Ty)) (f : Tm), m.flt env = some f → m.fit → f.fit
  | .mk hd a d bs ty ks, env, f, h, hf => by
    rw [Tm.flt] at h
    have hf2 := hf
    rw [Tm.fit] at hf2
    exact flts_fit (.mk hd a d bs ty ks) hf hd.toList a.toList ty bs env ks [] f h hf2.2
theorem flts_fit (self : Tm) (hs : self.fit) (h a : List UInt8) (ty : Option Ty) (bs : List ByteArray) (env : List (ByteArray × Ty)) : ∀ (ks : List Tm) (acc : List Ty) (f : Tm), Tm.flts self h a ty bs env acc ks = some f → Tm.fits ks → f.fit
  | [], acc, f, hh, _ => by
    rw [Tm.flts] at hh
    split at hh
    · cases hh
    · obtain rfl := Option.some.inj hh; exact hs
  | k :: ks, acc, f, hh, hf => by
    rw [Tm.flts] at hh
    rw [Tm.fits] at hf
    cases hb : (if ks.isEmpty = true then bndT h ty acc[0]? else some []) with
    | none => rw [hb] at hh; simp only at hh; obtain rfl := Option.some.inj hh; exact hs
    | some bts =>
      rw [hb] at hh; simp only at hh
      cases hk : Tm.typ (envWith env (if ks.isEmpty = true then bs else []) bts) k with
      | none => rw [hk] at hh; simp only at hh; exact flt_fit k _ f hh hf.1
      | some t => rw [hk] at hh; simp only at hh; exact flts_fit self hs h a ty bs env ks (acc ++ [t]) f hh hf.2
end
end Go.Proofs.YtfogjomebcponaaGreatDoor
