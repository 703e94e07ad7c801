/- The atoms of a form, by the model: l7Atoms. -/
import Derived.Test.YthpcmglnooemaaaGreatDoorUM13
import Derived.Test.YthpcmglnooemaaaGreatDoorUM25
namespace Go.Proofs.YthpcmglnooemaaaGreatDoor
open Go.RowKit

mutual
/-- The atoms in order. -/
def Tree.atoms : Tree → List ByteArray
  | .atom s => [s]
  | .node ps => Tree.atomsL ps
def Tree.atomsL : List Tree → List ByteArray
  | [] => []
  | p :: ps => p.atoms ++ Tree.atomsL ps
end
mutual
theorem atoms_len : ∀ t : Tree, t.atoms.length = t.size
  | .atom s => by rw [Tree.atoms, Tree.size]; rfl
  | .node ps => by rw [Tree.atoms, Tree.size]; exact atomsL_len ps
theorem atomsL_len : ∀ ps : List Tree, (Tree.atomsL ps).length = Tree.sizes ps
  | [] => by rw [Tree.atomsL, Tree.sizes]; rfl
  | p :: ps => by rw [Tree.atomsL, Tree.sizes, List.length_append, atoms_len p, atomsL_len ps]
end
theorem atomsL_at {ps : List Tree} {i : Nat} {p : Tree} (h : ps[i]? = some p) : Tree.atomsL (ps.drop i) = p.atoms ++ Tree.atomsL (ps.drop (i + 1)) := by
  rw [drop_at h, Tree.atomsL]
theorem sizes_atD {ps : List Tree} {i : Nat} {p : Tree} (h : ps[i]? = some p) : Tree.sizes (ps.drop i) = p.size + Tree.sizes (ps.drop (i + 1)) := by
  rw [drop_at h, Tree.sizes]
/-- What l7Atoms is asked. -/
def AtomsAsk (w0 : World) (t : Tree) (h : Hd) : Prop := ∀ (L : List ByteArray) (lp : Option Addr) (ln lc base : Nat) (w : World), Kept w0 w → w0.heap.size ≤ w.heap.size → w0.heap.size ≤ base → base ≤ w.heap.size →
  w.ownsRow base 9 1 (.slice lp ln lc) ln (L.map Value.string) → ln + t.size ≤ 50000 →
  Calls Tryz.prog 67 #[.agg #[.string h.a, .slice h.p h.l h.c], .slice lp ln lc] w (FreePost base (.slice lp ln lc) (L ++ t.atoms) w)

set_option maxRecDepth 100000 in
set_option maxHeartbeats 2000000 in
theorem atoms_atom (w0 : World) (a : ByteArray) (hne : a.size ≠ 0) (hm : a.size ≤ maxLen) : AtomsAsk w0 (.atom a) ⟨a, none, 0, 0⟩ := by
  intro L lp ln lc base w hk hw hb0 hbw hown hln
  have he := isEmpty_not a hne
  have HM := hid hm
  have hll : L.length = ln := by have := hown.1; simpa using this
  have HLL := hid hll
  have HOWN := hid (hown.alloc (.cells #[.string a, .slice none 0 0] 49))
  have hlb := hid (fun g e => hown.lt g e)
  rw [Tree.size] at hln
  obtain ⟨i0, hi0, hz0, hz1, hz2⟩ := info_parts Tryz.infoStr
  clear hown hk hw hb0 hll
  go_enter Tryz.func67, Tryz.ntmps67
  go_wp2_with (at_builtin; refine wpList_append_at _ rfl _ _ 25 rfl base 9 i0 (.string ByteArray.empty) 1 16 Tryz.underlying25 hi0 hz0 hz1 hz2 rfl (by decide) (.slice lp ln lc) ln _ rfl (HOWN.out.alloc _) ⟨w.heap.size + 1, 0, none⟩ 1 1 [.string a] rfl rfl (cells_new1 _ _ _ _ (by simp)) (by intro u hu; simp at hu; subst hu; rfl) (by decide) (by unfold maxLen; omega) (by omega) (by simp; omega) ?_; intro v' w2 hown2 hg2 hw2 hv2; obtain ⟨g2, kc2, rfl⟩ := hv2; have HG := hid hg2; have HO := hid hown2; have HW := hid hw2; clear hg2 hown2 hw2)
  go_ret
  have hat : L ++ (Tree.atom a).atoms = L ++ [a] := by rw [Tree.atoms]
  rw [hat]
  refine ⟨some ⟨g2, 0, none⟩, kc2, ?_, ?_, ?_, ?_⟩
  · rw [List.length_append, HLL.out]; rfl
  · rw [List.length_append, HLL.out, List.map_append]; exact HO.out
  · refine ⟨HG.out.os, HG.out.tape, HG.out.output, by have := HG.out.size; simp at this; omega, fun k hk hkr => ?_⟩
    rw [HG.out.block k (by simp; omega) hkr]
    exact ((Kept.refl w).alloc (Nat.le_refl _) _ |>.alloc (by simp) _) k hk
  · rcases HW.out with e | e
    · left; rw [List.length_append, HLL.out]; exact e
    · right; refine ⟨_, by rw [List.length_append, HLL.out]; exact e, by simp; omega⟩

set_option maxRecDepth 100000 in
set_option maxHeartbeats 8000000 in
theorem atoms_go {w0 : World} {ps : List Tree} {b cap n : Nat} {A : Nat → Hd} (hn : ps.length = n) (hn5 : n ≤ 50000)
    (hA : ∀ i, i < n → w0.cell? ⟨b, i * 2, none⟩ = some (.string (A i).a)) (hB : ∀ i, i < n → w0.cell? ⟨b, i * 2 + 1, none⟩ = some (.slice (A i).p (A i).l (A i).c))
    (ih : ∀ i p, ps[i]? = some p → AtomsAsk w0 p (A i)) : AtomsAsk w0 (.node ps) ⟨ByteArray.empty, some ⟨b, 0, none⟩, n, cap⟩ := by
  intro L lp ln lc base w hk hw hb0 hbw hown hln
  have hll : L.length = ln := by have := hown.1; simpa using this
  rw [Tree.size] at hln
  obtain ⟨W0, hW0⟩ : ∃ W0, W0 = w.alloc (.cells #[.string ByteArray.empty, .slice (some ⟨b, 0, none⟩) n cap] 49) := ⟨_, rfl⟩
  have hW0s : W0.heap.size = w.heap.size + 1 := by rw [hW0]; simp
  have hbx0 := heap_new w (.cells #[.string ByteArray.empty, .slice (some ⟨b, 0, none⟩) n cap] 49) w.heap.size rfl
  rw [← hW0] at hbx0
  have hkW : Kept w0 W0 := by rw [hW0]; exact hk.alloc hw _
  have hown0 : W0.ownsRow base 9 1 (.slice lp ln lc) ln (L.map Value.string) := by rw [hW0]; exact hown.alloc _
  have HBW := hid (show Below w.heap.size w W0 from by rw [hW0]; exact (Below.refl _ _).alloc (Nat.le_refl _) _)
  have HBX := hid hbx0
  have HN := hid hn
  have HA := hid hA
  have HB := hid hB
  have HIH := hid ih
  have HK := hid hkW
  have HOWN0 := hid hown0
  have HLT := hid (fun g e => hown.lt g e)
  have HW0 := hid hW0
  have HLL := hid hll
  have hWs2 : w.heap.size < W0.heap.size := by omega
  have hem : (ByteArray.empty : ByteArray).toList.isEmpty = true := isEmpty_of _ rfl
  have HAT := hid (show L ++ (Tree.node ps).atoms = L ++ Tree.atomsL ps by rw [Tree.atoms])
  rw [HAT.out]
  clear hn hA hB ih hk hown hkW hown0 hW0 hbx0 hll
  go_enter Tryz.func67, Tryz.ntmps67
  go_wp2_with fail
  rw [← HW0.out]
  obtain ⟨R, hR⟩ : ∃ R, L ++ Tree.atomsL ps = R := ⟨_, rfl⟩
  have HRR := hid hR
  go_loopw [1, 5] (fun v u wr => ∃ (i m c : Nat) (q : Option Addr) (L1 : List ByteArray), i ≤ n ∧ u = .int .i64 (i : Int) ∧ v = .slice q m c ∧ wr.ownsRow base 9 1 (.slice q m c) m (L1.map Value.string) ∧ W0.grownBy wr (Value.slice lp ln lc).ownBlock ∧
      ((Value.slice q m c).ownBlock = (Value.slice lp ln lc).ownBlock ∨ ∃ g, (Value.slice q m c).ownBlock = some g ∧ W0.heap.size ≤ g) ∧ m + Tree.sizes (ps.drop i) ≤ 50000 ∧ Hid (L1.length = m ∧ L1 ++ Tree.atomsL (ps.drop i) = R)) (fun _ u _ => n - (intOf u).toNat)
  case atStart =>
    exact ⟨0, ln, lc, lp, L, Nat.zero_le _, rfl, rfl, HOWN0.out, World.grownBy.refl _ _, Or.inl rfl, by simpa using hln, hid ⟨HLL.out, by simpa using hR⟩⟩
  case round =>
    obtain ⟨i, m, c, q1, L1, hi, rfl, rfl, hown, hgr, hob, hmw, hL⟩ := hrel
    have hz := hgr.size
    have hbxr : wr.heap[w.heap.size]? = some (.cells #[.string ByteArray.empty, .slice (some ⟨b, 0, none⟩) n cap] 49 (0, 0)) := block_grown HBX.out hgr (fun e => by have := (HLT.out _ e).2; omega)
    have kc2 := cells_of_pair hbxr
    have kc0 := kc2.1
    have kc1 := kc2.2.1
    have kw : Kept w0 wr := fun k hk => (hgr.block k (by omega) (fun e => by have := (HLT.out k e.symm).1; omega)).trans (HK.out k hk)
    have HOB := hid hob
    have HGR := hid hgr
    have HOWN := hid hown
    clear hown hgr hob hbxr kc2
    by_cases hlt : i < n
    · obtain ⟨p, hp⟩ : ∃ p, ps[i]? = some p := ⟨_, List.getElem?_eq_getElem (by rw [HN.out]; exact hlt)⟩
      have d2 : (i : Int) < (n : Int) := by omega
      have hst := atomsL_at hp
      have hsd := sizes_atD hp
      have e0 := kw.cell (HA.out i hlt)
      have e1 := kw.cell (HB.out i hlt)
      have HC := hid ((HIH.out i p hp) L1 q1 m c base wr kw (by omega) (by omega) (by omega) HOWN.out (by omega))
      obtain ⟨L2, hL2⟩ : ∃ L2, L1 ++ p.atoms = L2 := ⟨_, rfl⟩
      have hl2 : L2.length = m + p.size := by rw [← hL2, List.length_append, hL.out.1, atoms_len]
      have HL2 := hid (show L2 ++ Tree.atomsL (ps.drop (i + 1)) = R by rw [← hL2, ← hL.out.2, hst, List.append_assoc])
      rw [hL2] at HC
      have HL22 := hid hl2
      clear hp hst hL kw hL2 hl2
      go_wp2_with fail
      go_at_call 67
      refine HC.out.mono ?_
      rintro e w4 ⟨q4, c4, rfl, hown4, hg4, hb4⟩
      have HO4 := hid hown4
      have HG4 := hid hg4
      have HB4 := hid hb4
      clear hown4 hg4 hb4
      go_wp2_with fail
      go_roundw
      case rel =>
        refine ⟨i + 1, L2.length, c4, q4, L2, by omega, by go_num, rfl, HO4.out, grow_chain HGR.out (Below.refl _ _) HG4.out HOB.out, ?_, by have := HL22.out; omega, hid ⟨rfl, HL2.out⟩⟩
        rcases HB4.out with e | ⟨g, e, hg⟩
        · rw [e]; exact HOB.out
        · exact Or.inr ⟨g, e, by omega⟩
      case measure => simp [intOf]; omega
    · have hin : i = n := by omega
      subst hin
      have he : L1 = R := by
        have := hL.out.2
        rw [List.drop_of_length_le (by rw [HN.out]; omega), Tree.atomsL, List.append_nil] at this
        exact this
      have HE := hid he
      have HLL1 := hid hL.out.1
      clear he hL kw
      go_wp2_with fail
      go_ret
      rw [HRR.out]
      refine ⟨q1, c, ?_, ?_, ?_, ?_⟩
      · rw [← HE.out, HLL1.out]; rfl
      · rw [← HE.out, HLL1.out]; exact HOWN.out
      · exact grow_chain (Below.grownBy HBW.out (Nat.le_refl _)) (Below.refl _ _) HGR.out (Or.inl rfl)
      · rw [← HE.out, HLL1.out]
        rcases HOB.out with e | ⟨g, e, hg⟩
        · exact Or.inl e
        · exact Or.inr ⟨g, e, by omega⟩
/-- THE ATOMS OF A FORM, BY THE MODEL. -/
theorem l7Atoms_any {w0 : World} {S : Nat → Prop} {t : Tree} {h : Hd} (ht : TIn w0 S t h) : t.size ≤ 40000 → t.wt ≤ 40000 → AtomsAsk w0 t h := by
  induction ht with
  | atom a hne hm => intro _ _; exact atoms_atom w0 a hne hm
  | node ps b cap A hp hl hc hS hA hB hps ih =>
    intro hsz hwt
    rw [Tree.size] at hsz
    rw [Tree.wt] at hwt
    have hpl := wts_length ps
    exact atoms_go rfl (by omega) hA hB (fun i p hp => ih i p hp (by have := size_part ps i p hp; omega) (by have := wt_part ps i p hp; omega))
end Go.Proofs.YthpcmglnooemaaaGreatDoor
