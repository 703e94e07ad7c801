/- The program's reading of a phrase as a term. -/
import Derived.Test.YtfogjomebcponaaDoorAddP
namespace Go.Proofs.YtfogjomebcponaaDoor
open Go.RowKit

theorem add1_len {ar : List ByteArray} {c : Sg} {p : Tree} {st st' : St} (h : add1 ar c p st = some st') : st'.binds.length ≤ st.binds.length + 1 ∧ st'.binds.length + st'.kids.length ≤ st.binds.length + st.kids.length + 1 := by
  cases c with
  | X => obtain ⟨_, e⟩ := addX_inv h; rw [e]; simp; omega
  | A => obtain ⟨_, _, e⟩ := addT_inv h; rw [e]; simp
  | C => obtain ⟨_, _, e⟩ := addT_inv h; rw [e]; simp
  | V => obtain ⟨_, _, e⟩ := addK_inv h; rw [e]; simp; omega
  | M => obtain ⟨_, _, e⟩ := addK_inv h; rw [e]; simp; omega
theorem upS_size (l : List Sg) : (upS l).size = l.length := by simp [upS, ByteArray.size]
theorem upS_get (l : List Sg) (i : Nat) (c : Sg) (h : l[i]? = some c) (hi : i < (upS l).size) : (upS l)[i] = c.up := by
  have h1 := toList_get (upS l) i hi
  rw [Go.ByteArray.toList_eq] at h1
  simp [upS, h] at h1
  exact h1.symm
theorem wts_drop (l : List Tree) (i : Nat) (p : Tree) (h : l[i]? = some p) : Tree.wts (l.drop i) = p.wt + Tree.wts (l.drop (i + 1)) := by
  have hi := (List.getElem?_eq_some_iff.1 h)
  rw [List.drop_eq_getElem_cons hi.1, Tree.wts, hi.2]
theorem tm_no {ar : List ByteArray} {q : Tree} {qs : List Tree} (h : shape q.text.toList = [] ∨ (shape q.text.toList).length ≠ qs.length) : Tree.tm ar (.node (q :: qs)) = none := by
  rw [Tree.tm, if_pos h]
theorem tm_go {ar : List ByteArray} {q : Tree} {qs : List Tree} (h0 : shape q.text.toList ≠ []) (h : (shape q.text.toList).length = qs.length) {R : Option St} (hR : Tree.parts ar (shape q.text.toList) qs St.none = R) :
    Tree.tm ar (.node (q :: qs)) = R.map fun st => .mk q.text ByteArray.empty 0 st.binds st.ty st.kids := by
  rw [Tree.tm, if_neg (fun hh => hh.elim h0 (fun e => e h)), hR]
  cases R <;> rfl

set_option maxRecDepth 100000 in
set_option maxHeartbeats 1000000 in
theorem term_atom (w0 : World) (s : ByteArray) (_hne : s.size ≠ 0) (hm : s.size ≤ 400000000) : TmAsk w0 (.atom s) ⟨s, none, 0, 0⟩ := by
  intro ar q n c w hk hw hv hn
  have HA := hid (fun W (hk : Kept w W) => termOfAtom_any s hm ar q n c W (hv.kept hk) (by omega))
  clear hv hk
  rw [Tree.tm]
  obtain ⟨O, hO⟩ : ∃ O, atomTm ar s = O := ⟨_, rfl⟩
  rw [hO] at HA ⊢
  clear hO
  cases O with
  | none =>
    go_enter Tryd.func45, Tryd.ntmps45
    go_wp2_with (go_at_call 55; refine (HA.out _ ((Kept.refl w).alloc (Nat.le_refl _) _)).mono ?_; rintro e w1 hp; obtain ⟨rfl, hb1⟩ := hp.none; clear hp)
    go_ret2
    exact ⟨((Below.refl _ _).alloc (Nat.le_refl _) _).trans (hb1.mono (by simp)), rfl⟩
  | some m =>
    go_enter Tryd.func45, Tryd.ntmps45
    go_wp2_with (go_at_call 55; refine (HA.out _ ((Kept.refl w).alloc (Nat.le_refl _) _)).mono ?_; rintro e w1 hp; obtain ⟨a, rfl, hb1, hn1⟩ := hp.some; have HN1 := hid hn1; clear hp hn1)
    go_ret2
    exact ⟨((Below.refl _ _).alloc (Nat.le_refl _) _).trans (hb1.mono (by simp)), a, rfl, HN1.out.keep (fun _ _ _ => rfl) (fun k hk _ => by simp at hk; omega)⟩

set_option maxRecDepth 100000 in
set_option maxHeartbeats 2000000 in
theorem term_no {w0 : World} {q : Tree} {qs : List Tree} {b cap n : Nat} {A : Nat → Hd} (hn : qs.length = n) (hl : n + 1 ≤ cap) (hc : cap ≤ maxLen) (hn2 : n ≤ 12000) (hq : (A 0).a = q.text) (c0 : w0.cell? ⟨b, 0, none⟩ = some (.string (A 0).a)) (ar : List ByteArray) (p : Option Addr) (na c : Nat) (w : World) (hk : Kept w0 w)
    (hno : shape q.text.toList = [] ∨ (shape q.text.toList).length ≠ qs.length) :
    Calls Tryd.prog 45 #[.agg #[.string ByteArray.empty, .slice (some ⟨b, 0, none⟩) (n + 1) cap], .slice p na c] w (TmPost (Tree.tm ar (.node (q :: qs))) w) := by
  rw [tm_no hno]
  have c1 := hk.cell c0
  have HF := hid (fun W => (formOf_any (A 0).a W).mono fun e w' h => (⟨h.1, h.2.symm⟩ : _ ∧ w' = W))
  rw [hq] at HF c1
  have hsz := upS_size (shape q.text.toList)
  obtain ⟨F, hF⟩ : ∃ F, upS (shape q.text.toList) = F := ⟨_, rfl⟩
  rw [hF] at HF hsz
  have c2 : ∀ o, (w.alloc o).cell? ⟨b, 0, none⟩ = some (.string q.text) := fun o => (World.cell?_of_block (w := w) (heap_alloc_old w o (World.block_lt_of_cell? w _ c1))).trans c1
  have d0 : ((n : Int) + 1 == 0) = false := beq_eq_false_iff_ne.2 (by omega)
  unfold maxLen at hc
  have hwn : w.heap.size ≤ w.heap.size := Nat.le_refl _
  clear hk c0 hq hF
  by_cases he : F.size = 0
  · have f1 := isEmpty_of F he
    clear hno hsz he
    by_cases hcap : cap = 1
    · obtain rfl : n = 0 := by omega
      subst hcap
      go_enter Tryd.func45, Tryd.ntmps45
      go_wp2_with fail
      go_quiet ((go_at_call 39; exact Calls.quiet_of_same (HF.out _)))
      go_wp2_with fail
      go_ret2
      exact ⟨below_drewN (((Below.refl _ _).alloc (by simp) _).alloc (by simp) _) _, rfl⟩
    · go_enter Tryd.func45, Tryd.ntmps45
      go_wp2_with fail
      go_quiet ((go_at_call 39; exact Calls.quiet_of_same (HF.out _)))
      go_wp2_with fail
      go_ret2
      exact ⟨below_drewN (((Below.refl _ _).alloc (by simp) _).alloc (by simp) _) _, rfl⟩
  · have f1 := isEmpty_not F he
    have f2 : ((F.size : Int) != (n : Int)) = true := by
      refine bne_iff_ne.2 ?_
      rcases hno with h | h
      · rw [h, List.length_nil] at hsz; omega
      · omega
    have f3 : F.size ≤ 9223372036854775807 := by
      have := shape_mem q.text.toList
      have : (shape q.text.toList).length ≤ 4 := by
        rcases this with ⟨_, e⟩ | ⟨_, e⟩
        · rw [e]; decide
        · rcases e with e | e | e | e | e | e | e | e | e | e | e | e <;> (rw [e]; decide)
      omega
    clear hno hsz he
    by_cases hcap : cap = 1
    · obtain rfl : n = 0 := by omega
      subst hcap
      go_enter Tryd.func45, Tryd.ntmps45
      go_wp2_with fail
      go_quiet ((go_at_call 39; exact Calls.quiet_of_same (HF.out _)))
      go_wp2_with fail
      go_ret2
      exact ⟨below_drewN (((Below.refl _ _).alloc (by simp) _).alloc (by simp) _) _, rfl⟩
    · go_enter Tryd.func45, Tryd.ntmps45
      go_wp2_with fail
      go_quiet ((go_at_call 39; exact Calls.quiet_of_same (HF.out _)))
      go_wp2_with fail
      go_ret2
      exact ⟨below_drewN (((Below.refl _ _).alloc (by simp) _).alloc (by simp) _) _, rfl⟩
end Go.Proofs.YtfogjomebcponaaDoor
