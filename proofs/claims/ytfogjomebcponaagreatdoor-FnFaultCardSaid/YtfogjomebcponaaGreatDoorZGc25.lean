/- Merged: ZG30, ZGSAddT, ZGSAddK0, ZGSAddK1, ZGSAddK2, ZG35. -/
import Derived.Test.YtfogjomebcponaaGreatDoorZG22
import Derived.Test.YtfogjomebcponaaGreatDoorZGSNames
import Derived.Test.YtfogjomebcponaaGreatDoorZG12
import Derived.Test.YtfogjomebcponaaGreatDoorZGc0
import Derived.Test.YtfogjomebcponaaGreatDoorZG13
namespace Go.Proofs.YtfogjomebcponaaGreatDoor
open Go.RowKit
set_option maxRecDepth 100000
set_option maxHeartbeats 40000000
theorem growNil_any (n : Nat) (hn : n ≤ 1000000) (w : World) : Calls Tryz.prog 170 #[.slice none 0 0, .int .i64 (n : Int)] w fun e w' => ∃ q c, e = .returned (.slice q 0 c) ∧ w'.ownsRow w.heap.size 9 1 (.slice q 0 c) 0 [] ∧ Below w.heap.size w w' := by
 obtain ⟨i0, hi0, hz0, hz1, hz2⟩ := info_parts Tryz.infoStr
 by_cases h0 : n = 0
 ·subst h0
  go_enter Tryz.func170, Tryz.ntmps170
  go_wp2_with fail
  go_ret
  exact ⟨none, 0, rfl, World.ownsRow_nil _ _ _ _, Below.refl _ _⟩
 ·have hp : 0 < n := by omega
  have hr := fun ty W => Go.Lib.run_append_nil_zeros (P := Tryz.prog) W 22 3 ty 9 i0 (.string ByteArray.empty) .i64 .i64 Tryz.underlying22 Tryz.underlying3 hi0 hz0 n hp (by omega) (by omega) (by rw [hz2]; omega)
  have hge := grownCap_ge w n 0 9
  have hle := grownCap_le_maxLen w n 0 9 (by unfold maxLen; omega)
  unfold maxLen at hle
  go_enter Tryz.func170, Tryz.ntmps170
  go_wp2_with (at_builtin; refine Go.Lib.wpList_append_run w rfl _ _ _ _ rfl _ _ rfl rfl _ _ (hr _ _) ?_)
  go_ret
  refine ⟨some ⟨w.heap.size, 0, none⟩, _, rfl, ⟨rfl, Or.inr ⟨w.heap.size, _, _, rfl, Nat.le_refl _, hea _ _ _ (by simp), Nat.zero_le _, by unfold maxLen; exact hle, ?_, by simp⟩⟩, ?_⟩
  ·rw [Array.size_append, zeroCells_size _ _ rfl, zeroCells_size _ _ rfl]; omega
  ·exact ((Below.refl _ _).drew).alloc (by simp) _
theorem concat_two (g c : Nat) (p1 p2 : Option Addr) (n1 n2 c1 c2 : Nat) (l1 l2 : List ByteArray) (w : World) (h1 : SV w p1 n1 c1 l1) (h2 : SV w p2 n2 c2 l2) (hn1 : n1 ≤ 100000) (hn2 : n2 ≤ 100000)
    (hc0 : w.cell? ⟨g, 0, none⟩ = some (.slice p1 n1 c1)) (hc1 : w.cell? ⟨g, 1, none⟩ = some (.slice p2 n2 c2)) :
    Calls Tryz.prog 159 #[.slice (some ⟨g, 0, none⟩) 2 c] w fun e w' => ∃ q kc, e = .returned (.slice q (n1 + n2) kc) ∧ w'.ownsRow w.heap.size 9 1 (.slice q (n1 + n2) kc) (n1 + n2) ((l1 ++ l2).map Value.string) ∧ Below w.heap.size w w' := by
 have H1 := hid h1
 have H2 := hid h2
 have HC0 := hid hc0
 have HC1 := hid hc1
 have HG := hid (fun n (hn : n ≤ 1000000) W => growNil_any n hn W)
 obtain ⟨i0, hi0, hz0, hz1, hz2⟩ := info_parts Tryz.infoStr
 clear h1 h2
 go_enter Tryz.func159, Tryz.ntmps159
 go_wp2_with fail
 go_loop [3, 11] (fun v u => (u = .int .i64 0 ∧ v = .int .i64 0) ∨ (u = .int .i64 1 ∧ v = .int .i64 (n1 : Int)) ∨ (u = .int .i64 2 ∧ v = .int .i64 ((n1 : Int) + n2))) (fun _ u => (2 - intOf u).toNat)
 case atStart => exact Or.inl ⟨rfl, rfl⟩
 case round =>
  rcases hrel with ⟨rfl, rfl⟩ | ⟨rfl, rfl⟩ | ⟨rfl, rfl⟩
  ·go_wp2_with fail
   go_round
   case rel => exact Or.inr (Or.inl ⟨rfl, by simp⟩)
   case measure => simp [intOf]
  ·go_wp2_with fail
   go_round
   case rel => exact Or.inr (Or.inr ⟨rfl, rfl⟩)
   case measure => simp [intOf]
  ·clear hc0 hc1
   have hcast : ((n1 : Int) + n2) = ((n1 + n2 : Nat) : Int) := by simp
   have HG3 := hid (fun W => by have := HG.out (n1 + n2) (by omega) W; rw [← hcast] at this; exact this)
   clear hcast
   go_wp2_with (go_at_call 170; refine (HG3.out _).mono ?_; rintro e w1 ⟨q, kc, rfl, hown1, hb1⟩; have HO1 := hid hown1; have HB1 := hid hb1; clear hown1 hb1)
   go_loopw [6, 27] (fun v u wr => ∃ (q : Option Addr) (k kc : Nat) (l : List ByteArray), v = .slice q k kc ∧ wr.ownsRow w.heap.size 9 1 (.slice q k kc) k (l.map Value.string) ∧ Below w.heap.size w wr ∧
    ((u = .int .i64 0 ∧ l = [] ∧ k = 0) ∨ (u = .int .i64 1 ∧ l = l1 ∧ k = n1) ∨ (u = .int .i64 2 ∧ l = l1 ++ l2 ∧ k = n1 + n2))) (fun _ u _ => (2 - intOf u).toNat)
   case atStart => exact ⟨q, 0, kc, [], rfl, HO1.out, HB1.out, Or.inl ⟨rfl, rfl, rfl⟩⟩
   case round =>
    obtain ⟨q, k, kc, l, rfl, hown, hbel, hcase⟩ := hrel
    have HO := hid hown
    have HB := hid hbel
    have hz := hbel.size
    have hk := Kept.of_below hbel (Nat.le_refl _)
    have s1 := H1.out.kept hk
    have s2 := H2.out.kept hk
    have e0 := hk.cell HC0.out
    have e1 := hk.cell HC1.out
    have S1 := hid s1
    have S2 := hid s2
    clear hown hbel hk s1 s2
    have hlt := hid (fun k hk => (HO.out.lt k hk).1)
    rcases hcase with ⟨rfl, rfl, rfl⟩ | ⟨rfl, rfl, rfl⟩ | ⟨rfl, rfl, rfl⟩
    ·go_wp2_with (at_builtin; refine wpi _ rfl _ _ 22 rfl w.heap.size 9 i0 (.string ByteArray.empty) 16 Tryz.underlying22 hi0 hz0 hz1 hz2 rfl _ _ _ _ rfl HO.out _ _ _ l1 rfl S1.out (by unfold maxLen; omega) (by omega) (by omega) ?_; intro q' kc' w2 hown2 hg2; have HO2 := hid hown2; have HG2 := hid hg2; clear hown2 hg2)
     rw [Nat.zero_add] at HO2
     go_roundw
     case rel => exact ⟨q', n1, kc', l1, rfl, by simpa using HO2.out, HB.out.grown HG2.out (by omega) (fun k e => hlt.out k e), Or.inr (Or.inl ⟨rfl, rfl, rfl⟩)⟩
     case measure => simp [intOf]
    ·go_wp2_with (at_builtin; refine wpi _ rfl _ _ 22 rfl w.heap.size 9 i0 (.string ByteArray.empty) 16 Tryz.underlying22 hi0 hz0 hz1 hz2 rfl _ _ _ _ rfl HO.out _ _ _ l2 rfl S2.out (by unfold maxLen; omega) (by omega) (by omega) ?_; intro q' kc' w2 hown2 hg2; have HO2 := hid hown2; have HG2 := hid hg2; clear hown2 hg2)
     go_roundw
     case rel => exact ⟨q', _, kc', l ++ l2, rfl, by rw [List.map_append]; exact HO2.out, HB.out.grown HG2.out (by omega) (fun k e => hlt.out k e), Or.inr (Or.inr ⟨rfl, rfl, rfl⟩)⟩
     case measure => simp [intOf]
    ·go_wp2_with fail
     go_ret
     exact ⟨q, kc, rfl, HO.out, HB.out⟩
mutual
def Tree.atoms : Tree → List ByteArray
 | .atom s => [s]
 | .node ps => Tree.atomsL ps
def Tree.atomsL : List Tree → List ByteArray
 | [] => []
 | p :: ps => p.atoms ++ Tree.atomsL ps
end
mutual
theorem atoms_len : ∀ t : Tree, t.atoms.length = t.size
 | .atom s => by rw [Tree.atoms, Tree.size]; rfl
 | .node ps => by rw [Tree.atoms, Tree.size]; exact atomsL_len ps
theorem atomsL_len : ∀ ps : List Tree, (Tree.atomsL ps).length = Tree.sizes ps
 | [] => by rw [Tree.atomsL, Tree.sizes]; rfl
 | p :: ps => by rw [Tree.atomsL, Tree.sizes, List.length_append, atoms_len p, atomsL_len ps]
end
theorem atomsL_at {ps : List Tree} {i : Nat} {p : Tree} (h : ps[i]? = some p) : Tree.atomsL (ps.drop i) = p.atoms ++ Tree.atomsL (ps.drop (i + 1)) := by
 rw [dro h, Tree.atomsL]
theorem sizes_atD {ps : List Tree} {i : Nat} {p : Tree} (h : ps[i]? = some p) : Tree.sizes (ps.drop i) = p.size + Tree.sizes (ps.drop (i + 1)) := by
 rw [dro h, Tree.sizes]
def AtomsAsk (w0 : World) (t : Tree) (h : Hd) : Prop := ∀ (L : List ByteArray) (lp : Option Addr) (ln lc base : Nat) (w : World), Kept w0 w → w0.heap.size ≤ w.heap.size → w0.heap.size ≤ base → base ≤ w.heap.size →
 w.ownsRow base 9 1 (.slice lp ln lc) ln (L.map Value.string) → ln + t.size ≤ 50000 →
 Calls Tryz.prog 76 #[.agg #[.string h.a, .slice h.p h.l h.c], .slice lp ln lc] w (FreePost base (.slice lp ln lc) (L ++ t.atoms) w)
theorem atoms_atom (w0 : World) (a : ByteArray) (hne : a.size ≠ 0) (hm : a.size ≤ maxLen) : AtomsAsk w0 (.atom a) ⟨a, none, 0, 0⟩ := by
 intro L lp ln lc base w hk hw hb0 hbw hown hln
 have he := ise a hne
 have HM := hid hm
 have hll : L.length = ln := by have := hown.1; simpa using this
 have HLL := hid hll
 have HOWN := hid (hown.alloc (.cells #[.string a, .slice none 0 0] 43))
 have hlb := hid (fun g e => hown.lt g e)
 rw [Tree.size] at hln
 obtain ⟨i0, hi0, hz0, hz1, hz2⟩ := info_parts Tryz.infoStr
 clear hown hk hw hb0 hll
 go_enter Tryz.func76, Tryz.ntmps76
 go_wp2_with (at_builtin; refine wpl _ rfl _ _ 22 rfl base 9 i0 (.string ByteArray.empty) 1 16 Tryz.underlying22 hi0 hz0 hz1 hz2 rfl (by decide) (.slice lp ln lc) ln _ rfl (HOWN.out.alloc _) ⟨w.heap.size + 1, 0, none⟩ 1 1 [.string a] rfl rfl (cen _ _ _ _ (by simp)) (by intro u hu; simp at hu; subst hu; rfl) (by decide) (by unfold maxLen; omega) (by omega) (by simp; omega) ?_; intro v' w2 hown2 hg2 hw2 hv2; obtain ⟨g2, kc2, rfl⟩ := hv2; have HG := hid hg2; have HO := hid hown2; have HW := hid hw2; clear hg2 hown2 hw2)
 go_ret
 have hat : L ++ (Tree.atom a).atoms = L ++ [a] := by rw [Tree.atoms]
 rw [hat]
 refine ⟨some ⟨g2, 0, none⟩, kc2, ?_, ?_, ?_, ?_⟩
 ·rw [List.length_append, HLL.out]; rfl
 ·rw [List.length_append, HLL.out, List.map_append]; exact HO.out
 ·refine ⟨HG.out.os, HG.out.tape, HG.out.output, by have := HG.out.size; simp at this; omega, fun k hk hkr => ?_⟩
  rw [HG.out.block k (by simp; omega) hkr]
  exact ((Kept.refl w).alloc (Nat.le_refl _) _ |>.alloc (by simp) _) k hk
 ·rcases HW.out with e | e
  ·left; rw [List.length_append, HLL.out]; exact e
  ·right; refine ⟨_, by rw [List.length_append, HLL.out]; exact e, by simp; omega⟩
theorem atoms_go {w0 : World} {ps : List Tree} {b cap n : Nat} {A : Nat → Hd} (hn : ps.length = n) (hn5 : n ≤ 50000)
    (hA : ∀ i, i < n → w0.cell? ⟨b, i * 2, none⟩ = some (.string (A i).a)) (hB : ∀ i, i < n → w0.cell? ⟨b, i * 2 + 1, none⟩ = some (.slice (A i).p (A i).l (A i).c))
    (ih : ∀ i p, ps[i]? = some p → AtomsAsk w0 p (A i)) : AtomsAsk w0 (.node ps) ⟨ByteArray.empty, some ⟨b, 0, none⟩, n, cap⟩ := by
 intro L lp ln lc base w hk hw hb0 hbw hown hln
 have hll : L.length = ln := by have := hown.1; simpa using this
 rw [Tree.size] at hln
 obtain ⟨W0, hW0⟩ : ∃ W0, W0 = w.alloc (.cells #[.string ByteArray.empty, .slice (some ⟨b, 0, none⟩) n cap] 43) := ⟨_, rfl⟩
 have hW0s : W0.heap.size = w.heap.size + 1 := by rw [hW0]; simp
 have hbx0 := hea w (.cells #[.string ByteArray.empty, .slice (some ⟨b, 0, none⟩) n cap] 43) w.heap.size rfl
 rw [← hW0] at hbx0
 have hkW : Kept w0 W0 := by rw [hW0]; exact hk.alloc hw _
 have hown0 : W0.ownsRow base 9 1 (.slice lp ln lc) ln (L.map Value.string) := by rw [hW0]; exact hown.alloc _
 have HBW := hid (show Below w.heap.size w W0 from by rw [hW0]; exact (Below.refl _ _).alloc (Nat.le_refl _) _)
 have HBX := hid hbx0
 have HN := hid hn
 have HA := hid hA
 have HB := hid hB
 have HIH := hid ih
 have HK := hid hkW
 have HOWN0 := hid hown0
 have HLT := hid (fun g e => hown.lt g e)
 have HW0 := hid hW0
 have HLL := hid hll
 have hWs2 : w.heap.size < W0.heap.size := by omega
 have hem : (ByteArray.empty : ByteArray).toList.isEmpty = true := isEmpty_of _ rfl
 have HAT := hid (show L ++ (Tree.node ps).atoms = L ++ Tree.atomsL ps by rw [Tree.atoms])
 rw [HAT.out]
 clear hn hA hB ih hk hown hkW hown0 hW0 hbx0 hll
 go_enter Tryz.func76, Tryz.ntmps76
 go_wp2_with fail
 rw [← HW0.out]
 obtain ⟨R, hR⟩ : ∃ R, L ++ Tree.atomsL ps = R := ⟨_, rfl⟩
 have HRR := hid hR
 go_loopw [1, 5] (fun v u wr => ∃ (i m c : Nat) (q : Option Addr) (L1 : List ByteArray), i ≤ n ∧ u = .int .i64 (i : Int) ∧ v = .slice q m c ∧ wr.ownsRow base 9 1 (.slice q m c) m (L1.map Value.string) ∧ W0.grownBy wr (Value.slice lp ln lc).ownBlock ∧
     ((Value.slice q m c).ownBlock = (Value.slice lp ln lc).ownBlock ∨ ∃ g, (Value.slice q m c).ownBlock = some g ∧ W0.heap.size ≤ g) ∧ m + Tree.sizes (ps.drop i) ≤ 50000 ∧ Hid (L1.length = m ∧ L1 ++ Tree.atomsL (ps.drop i) = R)) (fun _ u _ => n - (intOf u).toNat)
 case atStart =>
  exact ⟨0, ln, lc, lp, L, Nat.zero_le _, rfl, rfl, HOWN0.out, World.grownBy.refl _ _, Or.inl rfl, by simpa using hln, hid ⟨HLL.out, by simpa using hR⟩⟩
 case round =>
  obtain ⟨i, m, c, q1, L1, hi, rfl, rfl, hown, hgr, hob, hmw, hL⟩ := hrel
  have hz := hgr.size
  have hbxr : wr.heap[w.heap.size]? = some (.cells #[.string ByteArray.empty, .slice (some ⟨b, 0, none⟩) n cap] 43 (0, 0)) := blc HBX.out hgr (fun e => by have := (HLT.out _ e).2; omega)
  have kc2 := cel hbxr
  have kc0 := kc2.1
  have kc1 := kc2.2.1
  have kw : Kept w0 wr := fun k hk => (hgr.block k (by omega) (fun e => by have := (HLT.out k e.symm).1; omega)).trans (HK.out k hk)
  have HOB := hid hob
  have HGR := hid hgr
  have HOWN := hid hown
  clear hown hgr hob hbxr kc2
  by_cases hlt : i < n
  ·obtain ⟨p, hp⟩ : ∃ p, ps[i]? = some p := ⟨_, List.getElem?_eq_getElem (by rw [HN.out]; exact hlt)⟩
   have d2 : (i : Int) < (n : Int) := by omega
   have hst := atomsL_at hp
   have hsd := sizes_atD hp
   have e0 := kw.cell (HA.out i hlt)
   have e1 := kw.cell (HB.out i hlt)
   have HC := hid ((HIH.out i p hp) L1 q1 m c base wr kw (by omega) (by omega) (by omega) HOWN.out (by omega))
   obtain ⟨L2, hL2⟩ : ∃ L2, L1 ++ p.atoms = L2 := ⟨_, rfl⟩
   have hl2 : L2.length = m + p.size := by rw [← hL2, List.length_append, hL.out.1, atoms_len]
   have HL2 := hid (show L2 ++ Tree.atomsL (ps.drop (i + 1)) = R by rw [← hL2, ← hL.out.2, hst, List.append_assoc])
   rw [hL2] at HC
   have HL22 := hid hl2
   clear hp hst hL kw hL2 hl2
   go_wp2_with fail
   go_at_call 76
   refine HC.out.mono ?_
   rintro e w4 ⟨q4, c4, rfl, hown4, hg4, hb4⟩
   have HO4 := hid hown4
   have HG4 := hid hg4
   have HB4 := hid hb4
   clear hown4 hg4 hb4
   go_wp2_with fail
   go_roundw
   case rel =>
    refine ⟨i + 1, L2.length, c4, q4, L2, by omega, by go_num, rfl, HO4.out, grow_chain HGR.out (Below.refl _ _) HG4.out HOB.out, ?_, by have := HL22.out; omega, hid ⟨rfl, HL2.out⟩⟩
    rcases HB4.out with e | ⟨g, e, hg⟩
    ·rw [e]; exact HOB.out
    ·exact Or.inr ⟨g, e, by omega⟩
   case measure => simp [intOf]; omega
  ·have hin : i = n := by omega
   subst hin
   have he : L1 = R := by
    have := hL.out.2
    rw [List.drop_of_length_le (by rw [HN.out]; omega), Tree.atomsL, List.append_nil] at this
    exact this
   have HE := hid he
   have HLL1 := hid hL.out.1
   clear he hL kw
   go_wp2_with fail
   go_ret
   rw [HRR.out]
   refine ⟨q1, c, ?_, ?_, ?_, ?_⟩
   ·rw [← HE.out, HLL1.out]; rfl
   ·rw [← HE.out, HLL1.out]; exact HOWN.out
   ·exact grow_chain (Below.grownBy HBW.out (Nat.le_refl _)) (Below.refl _ _) HGR.out (Or.inl rfl)
   ·rw [← HE.out, HLL1.out]
    rcases HOB.out with e | ⟨g, e, hg⟩
    ·exact Or.inl e
    ·exact Or.inr ⟨g, e, by omega⟩
theorem l7Atoms_any {w0 : World} {S : Nat → Prop} {t : Tree} {h : Hd} (ht : TIn w0 S t h) : t.size ≤ 40000 → t.wt ≤ 40000 → AtomsAsk w0 t h := by
 induction ht with
 | atom a hne hm => intro _ _; exact atoms_atom w0 a hne hm
 | node ps b cap A hp hl hc hS hA hB hps ih =>
  intro hsz hwt
  rw [Tree.size] at hsz
  rw [Tree.wt] at hwt
  have hpl := wtl ps
  exact atoms_go rfl (by omega) hA hB (fun i p hp => ih i p hp (by have := size_part ps i p hp; omega) (by have := wtp ps i p hp; omega))
theorem depthOf_any (s : ByteArray) (ar : List ByteArray) (p : Option Addr) (n c : Nat) (w : World) (hv : SV w p n c ar) (hn : n ≤ 100000) :
    Calls Tryz.prog 148 #[.string s, .slice p n c] w fun e w' => e = .returned (.int .i64 (depthIn s.toList ar)) ∧ w = w' := by
 have HV := hid hv
 have hl := hv.1
 have HL := hid hl
 clear hv hl
 go_enter Tryz.func148, Tryz.ntmps148
 go_wp2_with fail
 go_loop [8] (fun u => ∃ i : Nat, i ≤ n ∧ u = .int .i64 (i : Int) ∧ Hid (depthIn s.toList ar = depthR s.toList (ar.reverse.drop i) i)) (fun u => n - (intOf u).toNat)
 case atStart => exact ⟨0, Nat.zero_le _, rfl, by show _ = _; rw [List.drop_zero]; rfl⟩
 case round =>
  obtain ⟨i, hi, rfl, hd⟩ := hrel
  by_cases hlt : i < n
  ·have hj : n - 1 - i < ar.length := by rw [HL.out]; omega
   obtain ⟨x, hx⟩ : ∃ x, ar[n - 1 - i]? = some x := ⟨_, List.getElem?_eq_getElem hj⟩
   obtain ⟨g, rfl, hc⟩ := HV.out.2.2 _ x hx
   have hjj : (n : Int) - 1 - (i : Int) = ((n - 1 - i : Nat) : Int) := by omega
   have hrev : ar.reverse.drop i = x :: ar.reverse.drop (i + 1) := by
    have hil : i < ar.reverse.length := by rw [List.length_reverse, HL.out]; exact hlt
    rw [List.drop_eq_getElem_cons hil, List.getElem_reverse]
    congr 1
    rw [List.getElem?_eq_getElem hj] at hx
    have : ar.length - 1 - i = n - 1 - i := by rw [HL.out]
    simp only [this]; exact Option.some.inj hx
   have hdn := hd.out
   rw [hrev, depthR] at hdn
   have HD := hid hdn
   obtain ⟨j, hjd⟩ : ∃ j, n - 1 - i = j := ⟨_, rfl⟩
   rw [hjd] at hjj hc
   have hj0 : (0 : Int) ≤ (j : Int) := by omega
   have hj1 : (j : Int) < (n : Int) := by omega
   clear hx hrev hdn hd hj
   cases hq : x.toList == s.toList with
   | true =>
    have HQ := hid (show x.toList = s.toList by simpa using hq)
    go_wp2_with fail
    go_ret
    exact ⟨ret_int (by rw [HD.out, if_pos HQ.out]), rfl⟩
   | false =>
    have HQ := hid (show ¬ x.toList = s.toList by simpa using hq)
    go_wp2_with fail
    go_round
    case rel => exact ⟨i + 1, by omega, by go_num, by show _ = _; rw [HD.out, if_neg HQ.out]⟩
    case measure => simp [intOf]; omega
  ·have hin : i = n := by omega
   have HE := hid (show depthIn s.toList ar = -1 by rw [hd.out, hin, List.drop_of_length_le (by rw [List.length_reverse, HL.out]; exact Nat.le_refl _)]; rfl)
   clear hin hd
   go_wp2_with fail
   go_ret
   exact ⟨ret_int HE.out.symm, rfl⟩
def sortS (hd : ByteArray) : ByteArray := if isv hd.toList = true then strV else strC
theorem sort_any (hd : ByteArray) (b : Nat) (w : World) (hc : w.cell? ⟨b, 0, none⟩ = some (.string hd)) :
    Calls Tryz.prog 88 #[.pointer (some ⟨b, 0, none⟩)] w fun e w' => e = .returned (.string (sortS hd)) ∧ w = w' := by
 cases e0 : hd.toList == [110, 97, 109, 101] with
 | true =>
  have hq := hid (show isv hd.toList = true by rw [eq_t e0]; rfl)
  go_enter Tryz.func88, Tryz.ntmps88
  go_wp2
  go_ret
  exact ⟨rer (by rw [sortS, if_pos hq.out]; rfl), rfl⟩
 | false =>
  cases e1 : hd.toList == [98, 105, 116] with
  | true =>
   have hq := hid (show isv hd.toList = true by rw [eq_t e1]; rfl)
   go_enter Tryz.func88, Tryz.ntmps88
   go_wp2
   go_ret
   exact ⟨rer (by rw [sortS, if_pos hq.out]; rfl), rfl⟩
  | false =>
   cases e2 : hd.toList == [112, 97, 105, 114] with
   | true =>
    have hq := hid (show isv hd.toList = true by rw [eq_t e2]; rfl)
    go_enter Tryz.func88, Tryz.ntmps88
    go_wp2
    go_ret
    exact ⟨rer (by rw [sortS, if_pos hq.out]; rfl), rfl⟩
   | false =>
    cases e3 : hd.toList == [116, 104, 117, 110, 107] with
    | true =>
     have hq := hid (show isv hd.toList = true by rw [eq_t e3]; rfl)
     go_enter Tryz.func88, Tryz.ntmps88
     go_wp2
     go_ret
     exact ⟨rer (by rw [sortS, if_pos hq.out]; rfl), rfl⟩
    | false =>
     have hq := hid (show ¬ isv hd.toList = true by
      unfold isv
      simp only [beq_eq_false_iff_ne, ne_eq] at e0 e1 e2 e3
      simp [e0, e1, e2, e3])
     go_enter Tryz.func88, Tryz.ntmps88
     go_wp2
     go_ret
     exact ⟨rer (by rw [sortS, if_neg hq.out]; rfl), rfl⟩
theorem Tryz.infoPtr : (Tryz.prog.info? 50).map (fun i => (i.zero, i.size, i.bytes)) = some (some (.pointer none), 1, 8) := by kernel_rfl
structure BldAt (w : World) (b : Nat) (hd : ByteArray) (st : St) (bp : Option Addr) (bl bc : Nat) (kp : Option Addr) (kl kc : Nat) (A : Nat → Nat) : Prop where
 heap : w.heap[b]? = some (.cells #[.string hd, .string ByteArray.empty, .int .i64 0, .slice bp bl bc, tyV st.ty, .slice kp kl kc] 70 (0, 0))
 binds : w.ownsRow (b + 1) 9 1 (.slice bp bl bc) bl (st.binds.map Value.string)
 kids : w.ownsRow (b + 1) 50 1 (.slice kp kl kc) kl (ptrs A kl)
 hkl : st.kids.length = kl
 apart : ∀ g, (Value.slice bp bl bc).ownBlock = some g → (Value.slice kp kl kc).ownBlock ≠ some g
 nodes : ∀ i k, st.kids[i]? = some k → NIn w (fun x => b + 1 ≤ x ∧ (Value.slice bp bl bc).ownBlock ≠ some x ∧ (Value.slice kp kl kc).ownBlock ≠ some x) k (A i)
def Bld (w : World) (b : Nat) (hd : ByteArray) (st : St) : Prop := ∃ bp bl bc kp kl kc A, BldAt w b hd st bp bl bc kp kl kc A
theorem BldAt.bl {w : World} {b : Nat} {hd : ByteArray} {st : St} {bp : Option Addr} {bl bc : Nat} {kp : Option Addr} {kl kc : Nat} {A : Nat → Nat} (h : BldAt w b hd st bp bl bc kp kl kc A) : st.binds.length = bl := by
 have := h.binds.1; simpa using this
theorem BldAt.sv {w : World} {b : Nat} {hd : ByteArray} {st : St} {bp : Option Addr} {bl bc : Nat} {kp : Option Addr} {kl kc : Nat} {A : Nat → Nat} (h : BldAt w b hd st bp bl bc kp kl kc A) : SV w bp bl bc st.binds := sv_own h.binds
theorem BldAt.under {w w' : World} {b : Nat} {hd : ByteArray} {st : St} {bp : Option Addr} {bl bc : Nat} {kp : Option Addr} {kl kc : Nat} {A : Nat → Nat} (h : BldAt w b hd st bp bl bc kp kl kc A) (hb : Below w.heap.size w w') : BldAt w' b hd st bp bl bc kp kl kc A :=
 ⟨blo h.heap hb (lt_of_block h.heap), ows h.binds hb, ows h.kids hb, h.hkl, h.apart, fun i k hk => (h.nodes i k hk).keep (fun x _ hl => hb.block x hl) (fun _ hx _ => hx)⟩
theorem BldAt.start (w : World) (hd : ByteArray) (b : Nat) (hb : b = w.heap.size) : BldAt (w.alloc (.cells #[.string hd, .string ByteArray.empty, .int .i64 0, .slice none 0 0, .nilIface, .slice none 0 0] 70)) b hd St.none none 0 0 none 0 0 (fun _ => 0) :=
 ⟨hea _ _ _ hb, World.ownsRow_nil _ _ _ _, World.ownsRow_nil _ _ _ _, rfl, fun g h => by simp [Value.ownBlock] at h, fun i k h => by simp [St.none] at h⟩
theorem BldAt.bound {w w2 : World} {b : Nat} {hd s : ByteArray} {st : St} {bp bp' : Option Addr} {bl bc bc' : Nat} {kp : Option Addr} {kl kc : Nat} {A : Nat → Nat} (h : BldAt w b hd st bp bl bc kp kl kc A)
    (hown : w2.ownsRow (b + 1) 9 1 (.slice bp' (bl + 1) bc') (bl + 1) (st.binds.map Value.string ++ [.string s])) (hg : w.grownBy w2 (Value.slice bp bl bc).ownBlock)
    (hw : (Value.slice bp' (bl + 1) bc').ownBlock = (Value.slice bp bl bc).ownBlock ∨ (Value.slice bp' (bl + 1) bc').ownBlock = some w.heap.size) :
    BldAt (w2.setCell ⟨b, 3, none⟩ (.slice bp' (bl + 1) bc')) b hd { st with binds := st.binds ++ [s] } bp' (bl + 1) bc' kp kl kc A := by
 have hbo : (Value.slice bp bl bc).ownBlock ≠ some b := fun e => by have := (h.binds.lt b e).1; omega
 have hb2 := blc h.heap hg hbo
 have hset : ∀ k, b + 1 ≤ k → (w2.setCell ⟨b, 3, none⟩ (.slice bp' (bl + 1) bc')).heap[k]? = w2.heap[k]? := fun k hk => Below.heap_setCell _ _ _ _ (by show k ≠ b; omega)
 refine ⟨(six_setCell hb2).1, ?_, ?_, h.hkl, ?_, ?_⟩
 ·simp only [List.map_append, List.map_cons, List.map_nil]
  exact ownsRow_setCell_below hown (by show b < b + 1; omega) _
 ·refine ownsRow_setCell_below (h.kids.kept hg ?_) (by show b < b + 1; omega) _
  cases hk : (Value.slice kp kl kc).ownBlock with
  | none => exact Or.inl rfl
  | some g => exact Or.inr (fun e => h.apart g e.symm hk)
 ·intro g hg2 hk
  rcases hw with e | e
  ·exact h.apart g (e ▸ hg2) hk
  ·rw [e] at hg2
   have := (h.kids.lt g hk).2
   have := Option.some.inj hg2; omega
 ·intro i k hik
  refine (h.nodes i k hik).keep (fun x hx hl => ?_) (fun x hx hl => ⟨hx.1, ?_, hx.2.2⟩)
  ·rw [hset x hx.1]; exact hg.block x hl (fun e => hx.2.1 e.symm)
  ·rcases hw with e | e
   ·rw [e]; exact hx.2.1
   ·rw [e]; intro e2; have := Option.some.inj e2; omega
theorem BldAt.kid {w w2 : World} {b a : Nat} {hd : ByteArray} {m : Tm} {st : St} {bp : Option Addr} {bl bc : Nat} {kp kp' : Option Addr} {kl kc kc' : Nat} {A : Nat → Nat} (h : BldAt w b hd st bp bl bc kp kl kc A)
    (hn : NIn w (fun x => b + 1 ≤ x ∧ (Value.slice bp bl bc).ownBlock ≠ some x ∧ (Value.slice kp kl kc).ownBlock ≠ some x) m a)
    (hown : w2.ownsRow (b + 1) 50 1 (.slice kp' (kl + 1) kc') (kl + 1) (ptrs A kl ++ [.pointer (some ⟨a, 0, none⟩)])) (hg : w.grownBy w2 (Value.slice kp kl kc).ownBlock)
    (hw : (Value.slice kp' (kl + 1) kc').ownBlock = (Value.slice kp kl kc).ownBlock ∨ (Value.slice kp' (kl + 1) kc').ownBlock = some w.heap.size) :
    BldAt (w2.setCell ⟨b, 5, none⟩ (.slice kp' (kl + 1) kc')) b hd { st with kids := st.kids ++ [m] } bp bl bc kp' (kl + 1) kc' (fun i => if i = kl then a else A i) := by
 have hko : (Value.slice kp kl kc).ownBlock ≠ some b := fun e => by have := (h.kids.lt b e).1; omega
 have hb2 := blc h.heap hg hko
 have hset : ∀ k, b + 1 ≤ k → (w2.setCell ⟨b, 5, none⟩ (.slice kp' (kl + 1) kc')).heap[k]? = w2.heap[k]? := fun k hk => Below.heap_setCell _ _ _ _ (by show k ≠ b; omega)
 have hkeep : ∀ {k : Tm} {x : Nat}, NIn w (fun x => b + 1 ≤ x ∧ (Value.slice bp bl bc).ownBlock ≠ some x ∧ (Value.slice kp kl kc).ownBlock ≠ some x) k x → NIn (w2.setCell ⟨b, 5, none⟩ (.slice kp' (kl + 1) kc')) (fun x => b + 1 ≤ x ∧ (Value.slice bp bl bc).ownBlock ≠ some x ∧ (Value.slice kp' (kl + 1) kc').ownBlock ≠ some x) k x := by
  intro k x hk
  refine hk.keep (fun y hy hl => ?_) (fun y hy hl => ⟨hy.1, hy.2.1, ?_⟩)
  ·rw [hset y hy.1]; exact hg.block y hl (fun e => hy.2.2 e.symm)
  ·rcases hw with e | e
   ·rw [e]; exact hy.2.2
   ·rw [e]; intro e2; have := Option.some.inj e2; omega
 refine ⟨(six_setCell hb2).2.2, ?_, ?_, by simp [h.hkl], ?_, ?_⟩
 ·refine ownsRow_setCell_below (h.binds.kept hg ?_) (by show b < b + 1; omega) _
  cases hk : (Value.slice bp bl bc).ownBlock with
  | none => exact Or.inl rfl
  | some g => exact Or.inr (fun e => h.apart g hk e.symm)
 ·rw [ptrs_snoc]; exact ownsRow_setCell_below hown (by show b < b + 1; omega) _
 ·intro g hg2 hk
  rcases hw with e | e
  ·exact h.apart g hg2 (e ▸ hk)
  ·rw [e] at hk
   have := (h.binds.lt g hg2).2
   have := Option.some.inj hk; omega
 ·intro i k hik
  by_cases hi : i < st.kids.length
  ·rw [List.getElem?_append_left hi] at hik
   have : (if i = kl then a else A i) = A i := if_neg (by have := h.hkl; omega)
   rw [this]; exact hkeep (h.nodes i k hik)
  ·have hi2 : i = st.kids.length := by
     have := (List.getElem?_eq_some_iff.1 hik).1
     simp at this; omega
   subst hi2
   simp at hik; subst hik
   have : (if st.kids.length = kl then a else A st.kids.length) = a := if_pos h.hkl
   rw [this]; exact hkeep hn
theorem BldAt.typ {w : World} {b : Nat} {hd : ByteArray} {st : St} {bp : Option Addr} {bl bc : Nat} {kp : Option Addr} {kl kc : Nat} {A : Nat → Nat} (h : BldAt w b hd st bp bl bc kp kl kc A) (t : Ty) :
    BldAt (w.setCell ⟨b, 4, none⟩ t.val) b hd { st with ty := some t } bp bl bc kp kl kc A := by
 have hset : ∀ k, b + 1 ≤ k → (w.setCell ⟨b, 4, none⟩ t.val).heap[k]? = w.heap[k]? := fun k hk => Below.heap_setCell _ _ _ _ (by show k ≠ b; omega)
 refine ⟨(six_setCell h.heap).2.1, ownsRow_setCell_below h.binds (by show b < b + 1; omega) _, ownsRow_setCell_below h.kids (by show b < b + 1; omega) _, h.hkl, h.apart, fun i k hik => ?_⟩
 exact (h.nodes i k hik).keep (fun x hx _ => hset x hx.1) (fun _ hx _ => hx)
theorem BldAt.done {w : World} {b : Nat} {hd : ByteArray} {st : St} {bp : Option Addr} {bl bc : Nat} {kp : Option Addr} {kl kc : Nat} {A : Nat → Nat} (h : BldAt w b hd st bp bl bc kp kl kc A) :
    NIn w (fun k => b ≤ k) (.mk hd ByteArray.empty 0 st.binds st.ty st.kids) b := by
 refine .mk _ _ _ _ _ _ b bp bl bc kp kl kc A (Nat.le_refl _) h.heap h.bl h.hkl ⟨own_cap h.binds, own_cap h.kids⟩ ?_ ?_ (fun i k hik => (h.nodes i k hik).keep (fun _ _ _ => rfl) (fun x hx _ => by omega))
 ·intro i v hv
  obtain ⟨s, hs, rfl⟩ : ∃ s, st.binds[i]? = some s ∧ Value.string s = v := by simpa using hv
  obtain ⟨g, hp, hc⟩ := h.sv.2.2 i s hs
  exact ⟨g, hp, by have := (own_lt h.binds g 0 hp).1; omega, hc⟩
 ·intro i v hv
  rcases h.kids.2 with ⟨hv2, hn⟩ | ⟨g, cap, cur, hv2, hbg, _⟩
  ·have := (List.getElem?_eq_some_iff.1 hv).1
   rw [ptrs_length] at this; omega
  ·obtain ⟨rfl, _⟩ : kp = some ⟨g, 0, none⟩ ∧ kc = cap := by simp at hv2; exact hv2
   have hc := h.kids.cells (g := g) rfl i v hv
   have hadd : (⟨g, 0, none⟩ : Addr).add i = ⟨g, i, none⟩ := by unfold Addr.add; split <;> simp_all
   rw [hadd] at hc
   exact ⟨g, rfl, by omega, hc⟩
def Par (o : Option St) (b : Nat) (hd : ByteArray) (w : World) (e : Ending) (w' : World) : Prop :=
 Below b w w' ∧ match o with
  | some st => e = .returned (.bool true) ∧ Bld w' b hd st
  | none => e = .returned (.bool false)
theorem Par.none {b : Nat} {hd : ByteArray} {w w' : World} {e : Ending} (h : Par Option.none b hd w e w') : e = .returned (.bool false) ∧ Below b w w' := ⟨h.2, h.1⟩
theorem Par.some {b : Nat} {hd : ByteArray} {w w' : World} {e : Ending} {st : St} (h : Par (Option.some st) b hd w e w') : e = .returned (.bool true) ∧ Below b w w' ∧ Bld w' b hd st := ⟨h.2.1, h.1, h.2.2⟩
theorem addBound_any (s : ByteArray) (hs : s.size ≤ 400000000) (b : Nat) (hd : ByteArray) (st : St) (w : World) (hst : Bld w b hd st) (hbn : st.binds.length ≤ 1000) :
    Calls Tryz.prog 149 #[.pointer (some ⟨b, 0, none⟩), .string s] w (Par (addX s st) b hd w) := by
 obtain ⟨bp, bl, bc, kp, kl, kc, A, h⟩ := hst
 have HN := hid (fun W => isName_any s hs W)
 have hbl := h.bl
 have hlt := lt_of_block h.heap
 rw [hbl] at hbn
 have H := hid h
 have HBL := hid hbl
 clear h hbl
 cases hnm : nameB s.toList with
 | false =>
  have HX := hid (show addX s st = none by rw [addX, if_neg (by rw [hnm]; simp)])
  rw [hnm] at HN
  clear hnm
  go_enter Tryz.func149, Tryz.ntmps149
  go_wp2_with (go_at_call 51; refine (HN.out _).mono ?_; rintro e w1 ⟨rfl, hb1⟩)
  go_ret
  rw [HX.out]
  exact ⟨hb1.mono (by omega), rfl⟩
 | true =>
  rw [hnm] at HN
  have HNM := hid hnm
  clear hnm
  cases hbs : hasB st.binds s.toList with
  | true =>
   have HX := hid (show addX s st = none by rw [addX, if_neg]; exact fun hh => hh.2 hbs)
   have HB := hid hbs
   clear hbs
   go_enter Tryz.func149, Tryz.ntmps149
   go_wp2_with (first | (go_at_call 51; refine (HN.out _).mono ?_; rintro e w1 ⟨rfl, hb1⟩; have h1 := H.out.under hb1; have k := ces h1.heap; have HC := hid (contains_sv _ _ _ _ s w1 h1.sv (by omega)); rw [HB.out] at HC; clear h1) | (go_at_call 84; refine HC.out.mono ?_; rintro e w2 ⟨rfl, rfl⟩))
   go_ret
   rw [HX.out]
   exact ⟨hb1.mono (by omega), rfl⟩
  | false =>
   have HX := hid (show addX s st = some { st with binds := st.binds ++ [s] } by rw [addX, if_pos]; exact ⟨HNM.out, by intro hh; have := hbs; unfold hasB at this; rw [this] at hh; cases hh⟩)
   have HB := hid hbs
   obtain ⟨i0, hi0, hz0, hz1, hz2⟩ := info_parts Tryz.infoStr
   clear hbs
   go_enter Tryz.func149, Tryz.ntmps149
   go_wp2_with (first
    | (at_builtin; refine wpl _ rfl (.tmp 20) (.tmp 22) 22 rfl (b + 1) 9 i0 (.string ByteArray.empty) 1 16 Tryz.underlying22 hi0 hz0 hz1 hz2 rfl (by decide) (.slice bp bl bc) bl _ rfl ((ows H.out.binds hb1).alloc _) ⟨w1.heap.size, 0, none⟩ 1 1 [.string s] rfl rfl (cen _ _ _ _ rfl) (by intro u hu; simp at hu; subst hu; rfl) (by decide) (by unfold maxLen; omega) (by omega) (by have := hb1.size; simp; omega) ?_; intro v' w2 hown2 hg2 hw2 hv2; obtain ⟨g2, kc2, rfl⟩ := hv2; have hbo : (Value.slice bp bl bc).ownBlock ≠ some b := (fun e => by have := (H.out.binds.lt b e).1; omega); have m := ces (blc ((H.out.under (hb1.alloc hb1.size (.cells #[.string s] 9))).heap) hg2 hbo); have HG := hid hg2; have HO := hid hown2; have HW := hid hw2; clear hg2 hown2 hw2 hbo)
    | (go_at_call 51; refine (HN.out _).mono ?_; rintro e w1 ⟨rfl, hb1⟩; have h1 := H.out.under hb1; have k := ces h1.heap; have HC := hid (contains_sv _ _ _ _ s w1 h1.sv (by omega)); rw [HB.out] at HC; clear h1)
    | (go_at_call 84; refine HC.out.mono ?_; rintro e w2 ⟨rfl, rfl⟩))
   go_ret
   rw [HX.out]
   have hz := hb1.size
   have hfin := (H.out.under (hb1.alloc hz (.cells #[.string s] 9))).bound HO.out HG.out HW.out
   refine ⟨?_, rfl, _, _, _, _, _, _, _, hfin⟩
   exact ((((hb1.mono (show b ≤ w.heap.size by omega)).alloc (by omega) _).grown HG.out (by simp; omega) (fun k e => by have := (H.out.binds.lt k e).1; omega)).setCell (Nat.le_refl _) _)
def vS : Bool → ByteArray
 | true => strV
 | false => strC
theorem vc_ne : (strV.toList == strC.toList) = false := by rw [stv, stc]; rfl
theorem cv_ne : (strC.toList == strV.toList) = false := by rw [stv, stc]; rfl
theorem addType_bit_true {w0 : World} {S : Nat → Prop} {p : Tree} {h : Hd} (ht : TIn w0 S p h) (hwt : p.wt ≤ 12000) (hok : p.ok) (b : Nat) (hd : ByteArray) (st : St) (w : World) (hst : Bld w b hd st) (hk : Kept w0 w) (hw : w0.heap.size ≤ w.heap.size) (hty : tyLim p = some Ty.bit) :
    Calls Tryz.prog 150 #[.pointer (some ⟨b, 0, none⟩), .agg #[.string h.a, .slice h.p h.l h.c], .string strV] w (Par (addT true p st) b hd w) := by
 obtain ⟨bp, bl, bc, kp, kl, kc, A, H0⟩ := hst
 have H := hid H0
 have hlt := lt_of_block H0.heap
 have HX := hid (show addT true p st = some { st with ty := some Ty.bit } by rw [addT, hty]; rfl)
 have HL := hid (fun W (hk : Kept w0 W) (hs : w0.heap.size ≤ W.heap.size) => by have := lii ht hwt hok W hk hs; rw [hty] at this; exact this)
 have HK := hid (hk.alloc hw (.cells #[.string h.a, .slice h.p h.l h.c] 118))
 have mk := m_kind_bit
 have e1 := vc_ne
 have e2 := cv_ne
 clear H0 ht hok hk hty
 obtain ⟨pa, pp, pl, pc⟩ := h
 go_enter Tryz.func150, Tryz.ntmps150
 go_wp2_with (first
  | (go_at_call 86; refine (HL.out _ HK.out (by simp; omega)).mono ?_; rintro e w1 hp; obtain ⟨he1, hb1⟩ := hp.some; simp only [Ty.val] at he1; subst he1; clear hp; have hz1 : w.heap.size ≤ w1.heap.size := (by have := hb1.size; simp at this; omega))
  | (go_at_call 220; refine (kind_bit _).mono ?_; rintro e w2 ⟨rfl, hb2⟩; have hB := hid (((Below.refl w.heap.size w).alloc (Nat.le_refl _) (.cells #[.string pa, .slice pp pl pc] 118)).trans ((hb1.mono (by simp)).trans (hb2.mono hz1))); have k := ces (H.out.under hB.out).heap))
 go_ret
 rw [HX.out]
 exact ⟨(hB.out.mono (show b ≤ w.heap.size by omega)).setCell (Nat.le_refl _) _, rfl, _, _, _, _, _, _, _, (H.out.under hB.out).typ Ty.bit⟩
theorem addType_bit_false {w0 : World} {S : Nat → Prop} {p : Tree} {h : Hd} (ht : TIn w0 S p h) (hwt : p.wt ≤ 12000) (hok : p.ok) (b : Nat) (hd : ByteArray) (st : St) (w : World) (hst : Bld w b hd st) (hk : Kept w0 w) (hw : w0.heap.size ≤ w.heap.size) (hty : tyLim p = some Ty.bit) :
    Calls Tryz.prog 150 #[.pointer (some ⟨b, 0, none⟩), .agg #[.string h.a, .slice h.p h.l h.c], .string strC] w (Par (addT false p st) b hd w) := by
 obtain ⟨bp, bl, bc, kp, kl, kc, A, H0⟩ := hst
 have H := hid H0
 have hlt := lt_of_block H0.heap
 have HX := hid (show addT false p st = none by rw [addT, hty]; rfl)
 have HL := hid (fun W (hk : Kept w0 W) (hs : w0.heap.size ≤ W.heap.size) => by have := lii ht hwt hok W hk hs; rw [hty] at this; exact this)
 have HK := hid (hk.alloc hw (.cells #[.string h.a, .slice h.p h.l h.c] 118))
 have mk := m_kind_bit
 have e1 := vc_ne
 have e2 := cv_ne
 clear H0 ht hok hk hty
 obtain ⟨pa, pp, pl, pc⟩ := h
 go_enter Tryz.func150, Tryz.ntmps150
 go_wp2_with (first
  | (go_at_call 86; refine (HL.out _ HK.out (by simp; omega)).mono ?_; rintro e w1 hp; obtain ⟨he1, hb1⟩ := hp.some; simp only [Ty.val] at he1; subst he1; clear hp; have hz1 : w.heap.size ≤ w1.heap.size := (by have := hb1.size; simp at this; omega))
  | (go_at_call 220; refine (kind_bit _).mono ?_; rintro e w2 ⟨rfl, hb2⟩; have hB := hid (((Below.refl w.heap.size w).alloc (Nat.le_refl _) (.cells #[.string pa, .slice pp pl pc] 118)).trans ((hb1.mono (by simp)).trans (hb2.mono hz1))); have k := ces (H.out.under hB.out).heap))
 go_ret
 rw [HX.out]
 exact ⟨hB.out.mono (by omega), rfl⟩
theorem addType_pair_true (x y : Ty) {w0 : World} {S : Nat → Prop} {p : Tree} {h : Hd} (ht : TIn w0 S p h) (hwt : p.wt ≤ 12000) (hok : p.ok) (b : Nat) (hd : ByteArray) (st : St) (w : World) (hst : Bld w b hd st) (hk : Kept w0 w) (hw : w0.heap.size ≤ w.heap.size) (hty : tyLim p = some (Ty.pair x y)) :
    Calls Tryz.prog 150 #[.pointer (some ⟨b, 0, none⟩), .agg #[.string h.a, .slice h.p h.l h.c], .string strV] w (Par (addT true p st) b hd w) := by
 obtain ⟨bp, bl, bc, kp, kl, kc, A, H0⟩ := hst
 have H := hid H0
 have hlt := lt_of_block H0.heap
 have HX := hid (show addT true p st = some { st with ty := some (Ty.pair x y) } by rw [addT, hty]; rfl)
 have HL := hid (fun W (hk : Kept w0 W) (hs : w0.heap.size ≤ W.heap.size) => by have := lii ht hwt hok W hk hs; rw [hty] at this; exact this)
 have HK := hid (hk.alloc hw (.cells #[.string h.a, .slice h.p h.l h.c] 118))
 have mk := m_kind_pair x.val y.val
 have e1 := vc_ne
 have e2 := cv_ne
 clear H0 ht hok hk hty
 obtain ⟨pa, pp, pl, pc⟩ := h
 go_enter Tryz.func150, Tryz.ntmps150
 go_wp2_with (first
  | (go_at_call 86; refine (HL.out _ HK.out (by simp; omega)).mono ?_; rintro e w1 hp; obtain ⟨he1, hb1⟩ := hp.some; simp only [Ty.val] at he1; subst he1; clear hp; have hz1 : w.heap.size ≤ w1.heap.size := (by have := hb1.size; simp at this; omega))
  | (go_at_call 200; refine (kind_pair _ _ _).mono ?_; rintro e w2 ⟨rfl, hb2⟩; have hB := hid (((Below.refl w.heap.size w).alloc (Nat.le_refl _) (.cells #[.string pa, .slice pp pl pc] 118)).trans ((hb1.mono (by simp)).trans (hb2.mono hz1))); have k := ces (H.out.under hB.out).heap))
 go_ret
 rw [HX.out]
 exact ⟨(hB.out.mono (show b ≤ w.heap.size by omega)).setCell (Nat.le_refl _) _, rfl, _, _, _, _, _, _, _, (H.out.under hB.out).typ (Ty.pair x y)⟩
theorem addType_pair_false (x y : Ty) {w0 : World} {S : Nat → Prop} {p : Tree} {h : Hd} (ht : TIn w0 S p h) (hwt : p.wt ≤ 12000) (hok : p.ok) (b : Nat) (hd : ByteArray) (st : St) (w : World) (hst : Bld w b hd st) (hk : Kept w0 w) (hw : w0.heap.size ≤ w.heap.size) (hty : tyLim p = some (Ty.pair x y)) :
    Calls Tryz.prog 150 #[.pointer (some ⟨b, 0, none⟩), .agg #[.string h.a, .slice h.p h.l h.c], .string strC] w (Par (addT false p st) b hd w) := by
 obtain ⟨bp, bl, bc, kp, kl, kc, A, H0⟩ := hst
 have H := hid H0
 have hlt := lt_of_block H0.heap
 have HX := hid (show addT false p st = none by rw [addT, hty]; rfl)
 have HL := hid (fun W (hk : Kept w0 W) (hs : w0.heap.size ≤ W.heap.size) => by have := lii ht hwt hok W hk hs; rw [hty] at this; exact this)
 have HK := hid (hk.alloc hw (.cells #[.string h.a, .slice h.p h.l h.c] 118))
 have mk := m_kind_pair x.val y.val
 have e1 := vc_ne
 have e2 := cv_ne
 clear H0 ht hok hk hty
 obtain ⟨pa, pp, pl, pc⟩ := h
 go_enter Tryz.func150, Tryz.ntmps150
 go_wp2_with (first
  | (go_at_call 86; refine (HL.out _ HK.out (by simp; omega)).mono ?_; rintro e w1 hp; obtain ⟨he1, hb1⟩ := hp.some; simp only [Ty.val] at he1; subst he1; clear hp; have hz1 : w.heap.size ≤ w1.heap.size := (by have := hb1.size; simp at this; omega))
  | (go_at_call 200; refine (kind_pair _ _ _).mono ?_; rintro e w2 ⟨rfl, hb2⟩; have hB := hid (((Below.refl w.heap.size w).alloc (Nat.le_refl _) (.cells #[.string pa, .slice pp pl pc] 118)).trans ((hb1.mono (by simp)).trans (hb2.mono hz1))); have k := ces (H.out.under hB.out).heap))
 go_ret
 rw [HX.out]
 exact ⟨hB.out.mono (by omega), rfl⟩
theorem addType_thunk_true (x : Ty) {w0 : World} {S : Nat → Prop} {p : Tree} {h : Hd} (ht : TIn w0 S p h) (hwt : p.wt ≤ 12000) (hok : p.ok) (b : Nat) (hd : ByteArray) (st : St) (w : World) (hst : Bld w b hd st) (hk : Kept w0 w) (hw : w0.heap.size ≤ w.heap.size) (hty : tyLim p = some (Ty.thunk x)) :
    Calls Tryz.prog 150 #[.pointer (some ⟨b, 0, none⟩), .agg #[.string h.a, .slice h.p h.l h.c], .string strV] w (Par (addT true p st) b hd w) := by
 obtain ⟨bp, bl, bc, kp, kl, kc, A, H0⟩ := hst
 have H := hid H0
 have hlt := lt_of_block H0.heap
 have HX := hid (show addT true p st = some { st with ty := some (Ty.thunk x) } by rw [addT, hty]; rfl)
 have HL := hid (fun W (hk : Kept w0 W) (hs : w0.heap.size ≤ W.heap.size) => by have := lii ht hwt hok W hk hs; rw [hty] at this; exact this)
 have HK := hid (hk.alloc hw (.cells #[.string h.a, .slice h.p h.l h.c] 118))
 have mk := m_kind_thunk x.val
 have e1 := vc_ne
 have e2 := cv_ne
 clear H0 ht hok hk hty
 obtain ⟨pa, pp, pl, pc⟩ := h
 go_enter Tryz.func150, Tryz.ntmps150
 go_wp2_with (first
  | (go_at_call 86; refine (HL.out _ HK.out (by simp; omega)).mono ?_; rintro e w1 hp; obtain ⟨he1, hb1⟩ := hp.some; simp only [Ty.val] at he1; subst he1; clear hp; have hz1 : w.heap.size ≤ w1.heap.size := (by have := hb1.size; simp at this; omega))
  | (go_at_call 204; refine (kind_thunk _ _).mono ?_; rintro e w2 ⟨rfl, hb2⟩; have hB := hid (((Below.refl w.heap.size w).alloc (Nat.le_refl _) (.cells #[.string pa, .slice pp pl pc] 118)).trans ((hb1.mono (by simp)).trans (hb2.mono hz1))); have k := ces (H.out.under hB.out).heap))
 go_ret
 rw [HX.out]
 exact ⟨(hB.out.mono (show b ≤ w.heap.size by omega)).setCell (Nat.le_refl _) _, rfl, _, _, _, _, _, _, _, (H.out.under hB.out).typ (Ty.thunk x)⟩
theorem addType_thunk_false (x : Ty) {w0 : World} {S : Nat → Prop} {p : Tree} {h : Hd} (ht : TIn w0 S p h) (hwt : p.wt ≤ 12000) (hok : p.ok) (b : Nat) (hd : ByteArray) (st : St) (w : World) (hst : Bld w b hd st) (hk : Kept w0 w) (hw : w0.heap.size ≤ w.heap.size) (hty : tyLim p = some (Ty.thunk x)) :
    Calls Tryz.prog 150 #[.pointer (some ⟨b, 0, none⟩), .agg #[.string h.a, .slice h.p h.l h.c], .string strC] w (Par (addT false p st) b hd w) := by
 obtain ⟨bp, bl, bc, kp, kl, kc, A, H0⟩ := hst
 have H := hid H0
 have hlt := lt_of_block H0.heap
 have HX := hid (show addT false p st = none by rw [addT, hty]; rfl)
 have HL := hid (fun W (hk : Kept w0 W) (hs : w0.heap.size ≤ W.heap.size) => by have := lii ht hwt hok W hk hs; rw [hty] at this; exact this)
 have HK := hid (hk.alloc hw (.cells #[.string h.a, .slice h.p h.l h.c] 118))
 have mk := m_kind_thunk x.val
 have e1 := vc_ne
 have e2 := cv_ne
 clear H0 ht hok hk hty
 obtain ⟨pa, pp, pl, pc⟩ := h
 go_enter Tryz.func150, Tryz.ntmps150
 go_wp2_with (first
  | (go_at_call 86; refine (HL.out _ HK.out (by simp; omega)).mono ?_; rintro e w1 hp; obtain ⟨he1, hb1⟩ := hp.some; simp only [Ty.val] at he1; subst he1; clear hp; have hz1 : w.heap.size ≤ w1.heap.size := (by have := hb1.size; simp at this; omega))
  | (go_at_call 204; refine (kind_thunk _ _).mono ?_; rintro e w2 ⟨rfl, hb2⟩; have hB := hid (((Below.refl w.heap.size w).alloc (Nat.le_refl _) (.cells #[.string pa, .slice pp pl pc] 118)).trans ((hb1.mono (by simp)).trans (hb2.mono hz1))); have k := ces (H.out.under hB.out).heap))
 go_ret
 rw [HX.out]
 exact ⟨hB.out.mono (by omega), rfl⟩
theorem addType_ret_true (x : Ty) {w0 : World} {S : Nat → Prop} {p : Tree} {h : Hd} (ht : TIn w0 S p h) (hwt : p.wt ≤ 12000) (hok : p.ok) (b : Nat) (hd : ByteArray) (st : St) (w : World) (hst : Bld w b hd st) (hk : Kept w0 w) (hw : w0.heap.size ≤ w.heap.size) (hty : tyLim p = some (Ty.ret x)) :
    Calls Tryz.prog 150 #[.pointer (some ⟨b, 0, none⟩), .agg #[.string h.a, .slice h.p h.l h.c], .string strV] w (Par (addT true p st) b hd w) := by
 obtain ⟨bp, bl, bc, kp, kl, kc, A, H0⟩ := hst
 have H := hid H0
 have hlt := lt_of_block H0.heap
 have HX := hid (show addT true p st = none by rw [addT, hty]; rfl)
 have HL := hid (fun W (hk : Kept w0 W) (hs : w0.heap.size ≤ W.heap.size) => by have := lii ht hwt hok W hk hs; rw [hty] at this; exact this)
 have HK := hid (hk.alloc hw (.cells #[.string h.a, .slice h.p h.l h.c] 118))
 have mk := m_kind_ret x.val
 have e1 := vc_ne
 have e2 := cv_ne
 clear H0 ht hok hk hty
 obtain ⟨pa, pp, pl, pc⟩ := h
 go_enter Tryz.func150, Tryz.ntmps150
 go_wp2_with (first
  | (go_at_call 86; refine (HL.out _ HK.out (by simp; omega)).mono ?_; rintro e w1 hp; obtain ⟨he1, hb1⟩ := hp.some; simp only [Ty.val] at he1; subst he1; clear hp; have hz1 : w.heap.size ≤ w1.heap.size := (by have := hb1.size; simp at this; omega))
  | (go_at_call 208; refine (kind_ret _ _).mono ?_; rintro e w2 ⟨rfl, hb2⟩; have hB := hid (((Below.refl w.heap.size w).alloc (Nat.le_refl _) (.cells #[.string pa, .slice pp pl pc] 118)).trans ((hb1.mono (by simp)).trans (hb2.mono hz1))); have k := ces (H.out.under hB.out).heap))
 go_ret
 rw [HX.out]
 exact ⟨hB.out.mono (by omega), rfl⟩
theorem addType_ret_false (x : Ty) {w0 : World} {S : Nat → Prop} {p : Tree} {h : Hd} (ht : TIn w0 S p h) (hwt : p.wt ≤ 12000) (hok : p.ok) (b : Nat) (hd : ByteArray) (st : St) (w : World) (hst : Bld w b hd st) (hk : Kept w0 w) (hw : w0.heap.size ≤ w.heap.size) (hty : tyLim p = some (Ty.ret x)) :
    Calls Tryz.prog 150 #[.pointer (some ⟨b, 0, none⟩), .agg #[.string h.a, .slice h.p h.l h.c], .string strC] w (Par (addT false p st) b hd w) := by
 obtain ⟨bp, bl, bc, kp, kl, kc, A, H0⟩ := hst
 have H := hid H0
 have hlt := lt_of_block H0.heap
 have HX := hid (show addT false p st = some { st with ty := some (Ty.ret x) } by rw [addT, hty]; rfl)
 have HL := hid (fun W (hk : Kept w0 W) (hs : w0.heap.size ≤ W.heap.size) => by have := lii ht hwt hok W hk hs; rw [hty] at this; exact this)
 have HK := hid (hk.alloc hw (.cells #[.string h.a, .slice h.p h.l h.c] 118))
 have mk := m_kind_ret x.val
 have e1 := vc_ne
 have e2 := cv_ne
 clear H0 ht hok hk hty
 obtain ⟨pa, pp, pl, pc⟩ := h
 go_enter Tryz.func150, Tryz.ntmps150
 go_wp2_with (first
  | (go_at_call 86; refine (HL.out _ HK.out (by simp; omega)).mono ?_; rintro e w1 hp; obtain ⟨he1, hb1⟩ := hp.some; simp only [Ty.val] at he1; subst he1; clear hp; have hz1 : w.heap.size ≤ w1.heap.size := (by have := hb1.size; simp at this; omega))
  | (go_at_call 208; refine (kind_ret _ _).mono ?_; rintro e w2 ⟨rfl, hb2⟩; have hB := hid (((Below.refl w.heap.size w).alloc (Nat.le_refl _) (.cells #[.string pa, .slice pp pl pc] 118)).trans ((hb1.mono (by simp)).trans (hb2.mono hz1))); have k := ces (H.out.under hB.out).heap))
 go_ret
 rw [HX.out]
 exact ⟨(hB.out.mono (show b ≤ w.heap.size by omega)).setCell (Nat.le_refl _) _, rfl, _, _, _, _, _, _, _, (H.out.under hB.out).typ (Ty.ret x)⟩
theorem addType_fn_true (x y : Ty) {w0 : World} {S : Nat → Prop} {p : Tree} {h : Hd} (ht : TIn w0 S p h) (hwt : p.wt ≤ 12000) (hok : p.ok) (b : Nat) (hd : ByteArray) (st : St) (w : World) (hst : Bld w b hd st) (hk : Kept w0 w) (hw : w0.heap.size ≤ w.heap.size) (hty : tyLim p = some (Ty.fn x y)) :
    Calls Tryz.prog 150 #[.pointer (some ⟨b, 0, none⟩), .agg #[.string h.a, .slice h.p h.l h.c], .string strV] w (Par (addT true p st) b hd w) := by
 obtain ⟨bp, bl, bc, kp, kl, kc, A, H0⟩ := hst
 have H := hid H0
 have hlt := lt_of_block H0.heap
 have HX := hid (show addT true p st = none by rw [addT, hty]; rfl)
 have HL := hid (fun W (hk : Kept w0 W) (hs : w0.heap.size ≤ W.heap.size) => by have := lii ht hwt hok W hk hs; rw [hty] at this; exact this)
 have HK := hid (hk.alloc hw (.cells #[.string h.a, .slice h.p h.l h.c] 118))
 have mk := m_kind_fn x.val y.val
 have e1 := vc_ne
 have e2 := cv_ne
 clear H0 ht hok hk hty
 obtain ⟨pa, pp, pl, pc⟩ := h
 go_enter Tryz.func150, Tryz.ntmps150
 go_wp2_with (first
  | (go_at_call 86; refine (HL.out _ HK.out (by simp; omega)).mono ?_; rintro e w1 hp; obtain ⟨he1, hb1⟩ := hp.some; simp only [Ty.val] at he1; subst he1; clear hp; have hz1 : w.heap.size ≤ w1.heap.size := (by have := hb1.size; simp at this; omega))
  | (go_at_call 212; refine (kind_fn _ _ _).mono ?_; rintro e w2 ⟨rfl, hb2⟩; have hB := hid (((Below.refl w.heap.size w).alloc (Nat.le_refl _) (.cells #[.string pa, .slice pp pl pc] 118)).trans ((hb1.mono (by simp)).trans (hb2.mono hz1))); have k := ces (H.out.under hB.out).heap))
 go_ret
 rw [HX.out]
 exact ⟨hB.out.mono (by omega), rfl⟩
theorem addType_fn_false (x y : Ty) {w0 : World} {S : Nat → Prop} {p : Tree} {h : Hd} (ht : TIn w0 S p h) (hwt : p.wt ≤ 12000) (hok : p.ok) (b : Nat) (hd : ByteArray) (st : St) (w : World) (hst : Bld w b hd st) (hk : Kept w0 w) (hw : w0.heap.size ≤ w.heap.size) (hty : tyLim p = some (Ty.fn x y)) :
    Calls Tryz.prog 150 #[.pointer (some ⟨b, 0, none⟩), .agg #[.string h.a, .slice h.p h.l h.c], .string strC] w (Par (addT false p st) b hd w) := by
 obtain ⟨bp, bl, bc, kp, kl, kc, A, H0⟩ := hst
 have H := hid H0
 have hlt := lt_of_block H0.heap
 have HX := hid (show addT false p st = some { st with ty := some (Ty.fn x y) } by rw [addT, hty]; rfl)
 have HL := hid (fun W (hk : Kept w0 W) (hs : w0.heap.size ≤ W.heap.size) => by have := lii ht hwt hok W hk hs; rw [hty] at this; exact this)
 have HK := hid (hk.alloc hw (.cells #[.string h.a, .slice h.p h.l h.c] 118))
 have mk := m_kind_fn x.val y.val
 have e1 := vc_ne
 have e2 := cv_ne
 clear H0 ht hok hk hty
 obtain ⟨pa, pp, pl, pc⟩ := h
 go_enter Tryz.func150, Tryz.ntmps150
 go_wp2_with (first
  | (go_at_call 86; refine (HL.out _ HK.out (by simp; omega)).mono ?_; rintro e w1 hp; obtain ⟨he1, hb1⟩ := hp.some; simp only [Ty.val] at he1; subst he1; clear hp; have hz1 : w.heap.size ≤ w1.heap.size := (by have := hb1.size; simp at this; omega))
  | (go_at_call 212; refine (kind_fn _ _ _).mono ?_; rintro e w2 ⟨rfl, hb2⟩; have hB := hid (((Below.refl w.heap.size w).alloc (Nat.le_refl _) (.cells #[.string pa, .slice pp pl pc] 118)).trans ((hb1.mono (by simp)).trans (hb2.mono hz1))); have k := ces (H.out.under hB.out).heap))
 go_ret
 rw [HX.out]
 exact ⟨(hB.out.mono (show b ≤ w.heap.size by omega)).setCell (Nat.le_refl _) _, rfl, _, _, _, _, _, _, _, (H.out.under hB.out).typ (Ty.fn x y)⟩
theorem addType_choice_true (x y : Ty) {w0 : World} {S : Nat → Prop} {p : Tree} {h : Hd} (ht : TIn w0 S p h) (hwt : p.wt ≤ 12000) (hok : p.ok) (b : Nat) (hd : ByteArray) (st : St) (w : World) (hst : Bld w b hd st) (hk : Kept w0 w) (hw : w0.heap.size ≤ w.heap.size) (hty : tyLim p = some (Ty.choice x y)) :
    Calls Tryz.prog 150 #[.pointer (some ⟨b, 0, none⟩), .agg #[.string h.a, .slice h.p h.l h.c], .string strV] w (Par (addT true p st) b hd w) := by
 obtain ⟨bp, bl, bc, kp, kl, kc, A, H0⟩ := hst
 have H := hid H0
 have hlt := lt_of_block H0.heap
 have HX := hid (show addT true p st = none by rw [addT, hty]; rfl)
 have HL := hid (fun W (hk : Kept w0 W) (hs : w0.heap.size ≤ W.heap.size) => by have := lii ht hwt hok W hk hs; rw [hty] at this; exact this)
 have HK := hid (hk.alloc hw (.cells #[.string h.a, .slice h.p h.l h.c] 118))
 have mk := mki x.val y.val
 have e1 := vc_ne
 have e2 := cv_ne
 clear H0 ht hok hk hty
 obtain ⟨pa, pp, pl, pc⟩ := h
 go_enter Tryz.func150, Tryz.ntmps150
 go_wp2_with (first
  | (go_at_call 86; refine (HL.out _ HK.out (by simp; omega)).mono ?_; rintro e w1 hp; obtain ⟨he1, hb1⟩ := hp.some; simp only [Ty.val] at he1; subst he1; clear hp; have hz1 : w.heap.size ≤ w1.heap.size := (by have := hb1.size; simp at this; omega))
  | (go_at_call 216; refine (kind_choice _ _ _).mono ?_; rintro e w2 ⟨rfl, hb2⟩; have hB := hid (((Below.refl w.heap.size w).alloc (Nat.le_refl _) (.cells #[.string pa, .slice pp pl pc] 118)).trans ((hb1.mono (by simp)).trans (hb2.mono hz1))); have k := ces (H.out.under hB.out).heap))
 go_ret
 rw [HX.out]
 exact ⟨hB.out.mono (by omega), rfl⟩
theorem addType_choice_false (x y : Ty) {w0 : World} {S : Nat → Prop} {p : Tree} {h : Hd} (ht : TIn w0 S p h) (hwt : p.wt ≤ 12000) (hok : p.ok) (b : Nat) (hd : ByteArray) (st : St) (w : World) (hst : Bld w b hd st) (hk : Kept w0 w) (hw : w0.heap.size ≤ w.heap.size) (hty : tyLim p = some (Ty.choice x y)) :
    Calls Tryz.prog 150 #[.pointer (some ⟨b, 0, none⟩), .agg #[.string h.a, .slice h.p h.l h.c], .string strC] w (Par (addT false p st) b hd w) := by
 obtain ⟨bp, bl, bc, kp, kl, kc, A, H0⟩ := hst
 have H := hid H0
 have hlt := lt_of_block H0.heap
 have HX := hid (show addT false p st = some { st with ty := some (Ty.choice x y) } by rw [addT, hty]; rfl)
 have HL := hid (fun W (hk : Kept w0 W) (hs : w0.heap.size ≤ W.heap.size) => by have := lii ht hwt hok W hk hs; rw [hty] at this; exact this)
 have HK := hid (hk.alloc hw (.cells #[.string h.a, .slice h.p h.l h.c] 118))
 have mk := mki x.val y.val
 have e1 := vc_ne
 have e2 := cv_ne
 clear H0 ht hok hk hty
 obtain ⟨pa, pp, pl, pc⟩ := h
 go_enter Tryz.func150, Tryz.ntmps150
 go_wp2_with (first
  | (go_at_call 86; refine (HL.out _ HK.out (by simp; omega)).mono ?_; rintro e w1 hp; obtain ⟨he1, hb1⟩ := hp.some; simp only [Ty.val] at he1; subst he1; clear hp; have hz1 : w.heap.size ≤ w1.heap.size := (by have := hb1.size; simp at this; omega))
  | (go_at_call 216; refine (kind_choice _ _ _).mono ?_; rintro e w2 ⟨rfl, hb2⟩; have hB := hid (((Below.refl w.heap.size w).alloc (Nat.le_refl _) (.cells #[.string pa, .slice pp pl pc] 118)).trans ((hb1.mono (by simp)).trans (hb2.mono hz1))); have k := ces (H.out.under hB.out).heap))
 go_ret
 rw [HX.out]
 exact ⟨(hB.out.mono (show b ≤ w.heap.size by omega)).setCell (Nat.le_refl _) _, rfl, _, _, _, _, _, _, _, (H.out.under hB.out).typ (Ty.choice x y)⟩
theorem addType_none {w0 : World} {S : Nat → Prop} {p : Tree} {h : Hd} (ht : TIn w0 S p h) (hwt : p.wt ≤ 12000) (hok : p.ok) (v : Bool) (kS : ByteArray) (b : Nat) (hd : ByteArray) (st : St) (w : World) (hb : b ≤ w.heap.size) (hk : Kept w0 w) (hw : w0.heap.size ≤ w.heap.size) (hty : tyLim p = none) :
    Calls Tryz.prog 150 #[.pointer (some ⟨b, 0, none⟩), .agg #[.string h.a, .slice h.p h.l h.c], .string kS] w (Par (addT v p st) b hd w) := by
 have HX := hid (show addT v p st = none by rw [addT, hty])
 have HL := hid (fun W (hk : Kept w0 W) (hs : w0.heap.size ≤ W.heap.size) => by have := lii ht hwt hok W hk hs; rw [hty] at this; exact this)
 have HK := hid (hk.alloc hw (.cells #[.string h.a, .slice h.p h.l h.c] 118))
 clear ht hok hk hty
 obtain ⟨pa, pp, pl, pc⟩ := h
 go_enter Tryz.func150, Tryz.ntmps150
 go_wp2_with (go_at_call 86; refine (HL.out _ HK.out (by simp; omega)).mono ?_; rintro e w1 hp; obtain ⟨rfl, hb1⟩ := hp.none; clear hp)
 go_ret
 rw [HX.out]
 exact ⟨((Below.refl w.heap.size w).alloc (Nat.le_refl _) _).trans (hb1.mono (by simp)) |>.mono hb, rfl⟩
theorem addType_any {w0 : World} {S : Nat → Prop} {p : Tree} {h : Hd} (ht : TIn w0 S p h) (hwt : p.wt ≤ 12000) (hok : p.ok) (v : Bool) (b : Nat) (hd : ByteArray) (st : St) (w : World) (hst : Bld w b hd st) (hk : Kept w0 w) (hw : w0.heap.size ≤ w.heap.size) :
    Calls Tryz.prog 150 #[.pointer (some ⟨b, 0, none⟩), .agg #[.string h.a, .slice h.p h.l h.c], .string (vS v)] w (Par (addT v p st) b hd w) := by
 have hlt : b < w.heap.size := by obtain ⟨bp, bl, bc, kp, kl, kc, A, H0⟩ := hst; exact lt_of_block H0.heap
 cases hty : tyLim p with
 | none => exact addType_none ht hwt hok v (vS v) b hd st w (by omega) hk hw hty
 | some t =>
  cases v with
  | true =>
   cases t with
   | bit => exact addType_bit_true ht hwt hok b hd st w hst hk hw hty
   | pair x y => exact addType_pair_true x y ht hwt hok b hd st w hst hk hw hty
   | thunk x => exact addType_thunk_true x ht hwt hok b hd st w hst hk hw hty
   | ret x => exact addType_ret_true x ht hwt hok b hd st w hst hk hw hty
   | fn x y => exact addType_fn_true x y ht hwt hok b hd st w hst hk hw hty
   | choice x y => exact addType_choice_true x y ht hwt hok b hd st w hst hk hw hty
  | false =>
   cases t with
   | bit => exact addType_bit_false ht hwt hok b hd st w hst hk hw hty
   | pair x y => exact addType_pair_false x y ht hwt hok b hd st w hst hk hw hty
   | thunk x => exact addType_thunk_false x ht hwt hok b hd st w hst hk hw hty
   | ret x => exact addType_ret_false x ht hwt hok b hd st w hst hk hw hty
   | fn x y => exact addType_fn_false x y ht hwt hok b hd st w hst hk hw hty
   | choice x y => exact addType_choice_false x y ht hwt hok b hd st w hst hk hw hty
theorem NIn.head {w : World} {S : Nat → Prop} {m : Tm} {b : Nat} (h : NIn w S m b) : ∃ hd, w.cell? ⟨b, 0, none⟩ = some (.string hd) ∧ m.isVal = isv hd.toList := by
 cases h with
 | mk hd a d bs ty ks b bp bl bc kp kl kc A hS0 hb0 _ _ _ _ _ _ => exact ⟨hd, (ces hb0).1, rfl⟩
theorem sort_node {w : World} {S : Nat → Prop} {m : Tm} {b : Nat} (h : NIn w S m b) : Calls Tryz.prog 88 #[.pointer (some ⟨b, 0, none⟩)] w fun e w' => e = .returned (.string (vS m.isVal)) ∧ w = w' := by
 obtain ⟨hd, hc, hv⟩ := h.head
 have := sort_any hd b w hc
 rw [show sortS hd = vS m.isVal by rw [hv, sortS]; cases isv hd.toList <;> rfl] at this
 exact this
def TmAsk (w0 : World) (p : Tree) (h : Hd) : Prop := ∀ (ar : List ByteArray) (q : Option Addr) (n c : Nat) (W : World), Kept w0 W → w0.heap.size ≤ W.heap.size → SV W q n c ar → n + p.wt ≤ 12000 →
 Calls Tryz.prog 105 #[.agg #[.string h.a, .slice h.p h.l h.c], .slice q n c] W (TmPost (p.tm ar) W)
theorem kid_frame {w w2 : World} {o1 o2 : Obj} (hb2 : Below (((w.alloc o1).alloc o2).drew).heap.size (((w.alloc o1).alloc o2).drew) w2) : Below w.heap.size w w2 :=
 ((((Below.refl w.heap.size w).alloc (Nat.le_refl _) o1).alloc (by simp) o2).drew).trans (hb2.mono (by show w.heap.size ≤ ((w.alloc o1).alloc o2).heap.size; simp; omega))
theorem kid_phrase {w w2 : World} {x y : Value} {t : TypeId} {o2 : Obj} (hb2 : Below (((w.alloc (.cells #[x, y] t)).alloc o2).drew).heap.size (((w.alloc (.cells #[x, y] t)).alloc o2).drew) w2) : w2.heap[w.heap.size]? = some (.cells #[x, y] t (0, 0)) :=
 (hb2.block w.heap.size (by show w.heap.size < ((w.alloc (.cells #[x, y] t)).alloc o2).heap.size; simp; omega)).trans (show ((w.alloc (.cells #[x, y] t)).alloc o2).heap[w.heap.size]? = _ from pai (hea w _ _ rfl) o2)
theorem addKid_none_true {w0 : World} {p : Tree} {h : Hd} (ih : TmAsk w0 p h) (b : Nat) (hd : ByteArray) (st : St) (ar : List ByteArray) (q : Option Addr) (n c : Nat) (w : World) (hst : Bld w b hd st) (hk : Kept w0 w) (hw : w0.heap.size ≤ w.heap.size) (hv : SV w q n c ar) (hn : n + st.binds.length + p.wt ≤ 12000) (ho : p.tm (ar ++ st.binds) = none) :
    Calls Tryz.prog 151 #[.pointer (some ⟨b, 0, none⟩), .agg #[.string h.a, .slice h.p h.l h.c], .string (vS true), .slice q n c] w (Par (addK true (p.tm (ar ++ st.binds)) st) b hd w) := by
 have HO := hid ho
 have HX := hid (show addK true (p.tm (ar ++ st.binds)) st = none by rw [ho]; rfl)
 clear ho
 obtain ⟨bp, bl, bc, kp, kl, kc, A, H0⟩ := hst
 have H := hid H0
 have hlt := lt_of_block H0.heap
 have hbl := H0.bl
 have k0 := ces H0.heap
 have HIH := hid ih
 have HK := hid hk
 have HV := hid hv
 have HSV := hid H0.sv
 rw [hbl] at hn
 have HCC := hid (fun (Wx : World) (g : Nat) (hkx : Kept w Wx) (e0 : Wx.cell? ⟨g, 0, none⟩ = some (.slice q n c)) (e1 : Wx.cell? ⟨g, 1, none⟩ = some (.slice bp bl bc)) => concat_two g 2 q bp n bl c bc ar st.binds Wx (HV.out.kept hkx) (HSV.out.kept hkx) (by omega) (by omega) e0 e1)
 clear H0 ih hk hv hbl
 obtain ⟨pa, pp, pl, pc⟩ := h
 go_enter Tryz.func151, Tryz.ntmps151
 go_wp2_with fail
 go_region_with (first
  | (go_at_call 159; refine (HCC.out ((w.alloc (.cells #[.string pa, .slice pp pl pc] 118)).alloc (.cells #[.slice q n c, .slice bp bl bc] 22)).drew (w.heap.size + 1) (show Kept w ((w.alloc (.cells #[.string pa, .slice pp pl pc] 118)).alloc (.cells #[.slice q n c, .slice bp bl bc] 22)) from ((Kept.refl w).alloc (Nat.le_refl _) _).alloc (by simp) _) (show ((w.alloc (.cells #[.string pa, .slice pp pl pc] 118)).alloc (.cells #[.slice q n c, .slice bp bl bc] 22)).cell? ⟨w.heap.size + 1, 0, none⟩ = _ from (cel (hea _ _ _ (by simp))).1) (show ((w.alloc (.cells #[.string pa, .slice pp pl pc] 118)).alloc (.cells #[.slice q n c, .slice bp bl bc] 22)).cell? ⟨w.heap.size + 1, 1, none⟩ = _ from (cel (hea _ _ _ (by simp))).2.1)).mono ?_; rintro e w2 ⟨q2, kc2, rfl, hown2, hb2⟩; have SV2 := hid (sv_own hown2); have hB2 := hid (kid_frame hb2); have hz2 := hB2.out.size; have kp2 := cel (kid_phrase hb2); have kb2 := ces (H.out.under hB2.out).heap; clear hown2 hb2)
  | (go_at_call 105; refine (HIH.out (ar ++ st.binds) _ _ _ _ (HK.out.below hB2.out hw) (Nat.le_trans hw hz2) SV2.out (by omega)).mono ?_; rintro e w3 hp; rw [HO.out] at hp; obtain ⟨rfl, hb3⟩ := hp.none; have hB3 := hid (hB2.out.trans (hb3.mono hz2)); clear hb3; clear hp))
 all_goals
  go_wp2_with fail
  go_ret
  rw [HX.out]
  exact ⟨hB3.out.mono (by omega), rfl⟩
theorem addKid_true_true {w0 : World} {p : Tree} {h : Hd} (ih : TmAsk w0 p h) (b : Nat) (hd : ByteArray) (st : St) (ar : List ByteArray) (q : Option Addr) (n c : Nat) (w : World) (hst : Bld w b hd st) (hk : Kept w0 w) (hw : w0.heap.size ≤ w.heap.size) (hv : SV w q n c ar) (hn : n + st.binds.length + p.wt ≤ 12000) (m : Tm) (ho : p.tm (ar ++ st.binds) = some m) (hm : m.isVal = true) (hkn : st.kids.length ≤ 1000) :
    Calls Tryz.prog 151 #[.pointer (some ⟨b, 0, none⟩), .agg #[.string h.a, .slice h.p h.l h.c], .string strV, .slice q n c] w (Par (addK true (p.tm (ar ++ st.binds)) st) b hd w) := by
 have HO := hid ho
 have HX := hid (show addK true (p.tm (ar ++ st.binds)) st = some { st with kids := st.kids ++ [m] } by rw [ho, addK]; simp [hm])
 have HS := hid (fun (W : World) (S : Nat → Prop) (a : Nat) (hn : NIn W S m a) => (show Calls Tryz.prog 88 #[.pointer (some ⟨a, 0, none⟩)] W fun e w' => e = .returned (.string strV) ∧ W = w' from by have := sort_node hn; rw [hm] at this; exact this))
 have e1 := vc_ne
 have e2 := cv_ne
 clear ho hm
 obtain ⟨bp, bl, bc, kp, kl, kc, A, H0⟩ := hst
 have H := hid H0
 have hlt := lt_of_block H0.heap
 have hbl := H0.bl
 have k0 := ces H0.heap
 have HIH := hid ih
 have HK := hid hk
 have HV := hid hv
 have HSV := hid H0.sv
 rw [hbl] at hn
 have HCC := hid (fun (Wx : World) (g : Nat) (hkx : Kept w Wx) (e0 : Wx.cell? ⟨g, 0, none⟩ = some (.slice q n c)) (e1 : Wx.cell? ⟨g, 1, none⟩ = some (.slice bp bl bc)) => concat_two g 2 q bp n bl c bc ar st.binds Wx (HV.out.kept hkx) (HSV.out.kept hkx) (by omega) (by omega) e0 e1)
 clear H0 ih hk hv hbl
 obtain ⟨pa, pp, pl, pc⟩ := h
 obtain ⟨i0, hi0, hz0, hz1, hz2'⟩ := info_parts Tryz.infoPtr
 have hkl := H.out.hkl
 rw [hkl] at hkn
 clear hkl
 go_enter Tryz.func151, Tryz.ntmps151
 go_wp2_with fail
 go_region_with (first
  | (go_at_call 159; refine (HCC.out ((w.alloc (.cells #[.string pa, .slice pp pl pc] 118)).alloc (.cells #[.slice q n c, .slice bp bl bc] 22)).drew (w.heap.size + 1) (show Kept w ((w.alloc (.cells #[.string pa, .slice pp pl pc] 118)).alloc (.cells #[.slice q n c, .slice bp bl bc] 22)) from ((Kept.refl w).alloc (Nat.le_refl _) _).alloc (by simp) _) (show ((w.alloc (.cells #[.string pa, .slice pp pl pc] 118)).alloc (.cells #[.slice q n c, .slice bp bl bc] 22)).cell? ⟨w.heap.size + 1, 0, none⟩ = _ from (cel (hea _ _ _ (by simp))).1) (show ((w.alloc (.cells #[.string pa, .slice pp pl pc] 118)).alloc (.cells #[.slice q n c, .slice bp bl bc] 22)).cell? ⟨w.heap.size + 1, 1, none⟩ = _ from (cel (hea _ _ _ (by simp))).2.1)).mono ?_; rintro e w2 ⟨q2, kc2, rfl, hown2, hb2⟩; have SV2 := hid (sv_own hown2); have hB2 := hid (kid_frame hb2); have hz2 := hB2.out.size; have kp2 := cel (kid_phrase hb2); have kb2 := ces (H.out.under hB2.out).heap; clear hown2 hb2)
  | (go_at_call 105; refine (HIH.out (ar ++ st.binds) _ _ _ _ (HK.out.below hB2.out hw) (Nat.le_trans hw hz2) SV2.out (by omega)).mono ?_; rintro e w3 hp; rw [HO.out] at hp; obtain ⟨a, rfl, hb3, hn3⟩ := hp.some; have hB3 := hid (hB2.out.trans (hb3.mono hz2)); have HN3 := hid hn3; have hz3 : w2.heap.size ≤ w3.heap.size := hb3.size; have k3 := ces (H.out.under hB3.out).heap; clear hb3 hn3; clear hp))
 all_goals
  go_wp2_with (first
   | (at_builtin; refine wpl _ rfl (.tmp 35) (.tmp 37) 68 rfl (b + 1) 50 i0 (.pointer none) 1 8 Tryz.underlying68 hi0 hz0 hz1 hz2' rfl (by decide) (.slice kp kl kc) kl _ rfl ((ows H.out.kids hB3.out).alloc _) ⟨w3.heap.size, 0, none⟩ 1 1 [.pointer (some ⟨a, 0, none⟩)] rfl rfl (cen _ _ _ _ rfl) (by intro u hu; simp at hu; subst hu; rfl) (by decide) (by unfold maxLen; omega) (by omega) (by simp; omega) ?_; intro v' w4 hown4 hg4 hw4 hv4; obtain ⟨g2, kc4, rfl⟩ := hv4; have hko : (Value.slice kp kl kc).ownBlock ≠ some b := (fun e => by have := (H.out.kids.lt b e).1; omega); have m4 := ces (blc ((H.out.under (hB3.out.alloc (by omega) (.cells #[.pointer (some ⟨a, 0, none⟩)] 50))).heap) hg4 hko); have HG := hid hg4; have HO4 := hid hown4; have HW := hid hw4; clear hg4 hown4 hw4 hko)
   | (go_at_call 88; refine (HS.out _ _ _ HN3.out).mono ?_; rintro e w5 ⟨rfl, rfl⟩))
  go_ret
  rw [HX.out]
  have hBa := hB3.out.alloc (by omega) (.cells #[.pointer (some ⟨a, 0, none⟩)] 50)
  have hfin := (H.out.under hBa).kid (m := m) (a := a) (HN3.out.keep (fun k _ hl => heap_alloc_old w3 _ hl) (fun x hx _ => ⟨by omega, fun e => by have := (H.out.binds.lt x e).2; omega, fun e => by have := (H.out.kids.lt x e).2; omega⟩)) HO4.out HG.out HW.out
  refine ⟨?_, rfl, _, _, _, _, _, _, _, hfin⟩
  exact ((((hB3.out.mono (show b ≤ w.heap.size by omega)).alloc (by omega) _).grown HG.out (by simp; omega) (fun k e => by have := (H.out.kids.lt k e).1; omega)).setCell (Nat.le_refl _) _)
theorem addKid_true_false {w0 : World} {p : Tree} {h : Hd} (ih : TmAsk w0 p h) (b : Nat) (hd : ByteArray) (st : St) (ar : List ByteArray) (q : Option Addr) (n c : Nat) (w : World) (hst : Bld w b hd st) (hk : Kept w0 w) (hw : w0.heap.size ≤ w.heap.size) (hv : SV w q n c ar) (hn : n + st.binds.length + p.wt ≤ 12000) (m : Tm) (ho : p.tm (ar ++ st.binds) = some m) (hm : m.isVal = false) :
    Calls Tryz.prog 151 #[.pointer (some ⟨b, 0, none⟩), .agg #[.string h.a, .slice h.p h.l h.c], .string strV, .slice q n c] w (Par (addK true (p.tm (ar ++ st.binds)) st) b hd w) := by
 have HO := hid ho
 have HX := hid (show addK true (p.tm (ar ++ st.binds)) st = none by rw [ho, addK]; simp [hm])
 have HS := hid (fun (W : World) (S : Nat → Prop) (a : Nat) (hn : NIn W S m a) => (show Calls Tryz.prog 88 #[.pointer (some ⟨a, 0, none⟩)] W fun e w' => e = .returned (.string strC) ∧ W = w' from by have := sort_node hn; rw [hm] at this; exact this))
 have e1 := vc_ne
 have e2 := cv_ne
 clear ho hm
 obtain ⟨bp, bl, bc, kp, kl, kc, A, H0⟩ := hst
 have H := hid H0
 have hlt := lt_of_block H0.heap
 have hbl := H0.bl
 have k0 := ces H0.heap
 have HIH := hid ih
 have HK := hid hk
 have HV := hid hv
 have HSV := hid H0.sv
 rw [hbl] at hn
 have HCC := hid (fun (Wx : World) (g : Nat) (hkx : Kept w Wx) (e0 : Wx.cell? ⟨g, 0, none⟩ = some (.slice q n c)) (e1 : Wx.cell? ⟨g, 1, none⟩ = some (.slice bp bl bc)) => concat_two g 2 q bp n bl c bc ar st.binds Wx (HV.out.kept hkx) (HSV.out.kept hkx) (by omega) (by omega) e0 e1)
 clear H0 ih hk hv hbl
 obtain ⟨pa, pp, pl, pc⟩ := h
 go_enter Tryz.func151, Tryz.ntmps151
 go_wp2_with fail
 go_region_with (first
  | (go_at_call 159; refine (HCC.out ((w.alloc (.cells #[.string pa, .slice pp pl pc] 118)).alloc (.cells #[.slice q n c, .slice bp bl bc] 22)).drew (w.heap.size + 1) (show Kept w ((w.alloc (.cells #[.string pa, .slice pp pl pc] 118)).alloc (.cells #[.slice q n c, .slice bp bl bc] 22)) from ((Kept.refl w).alloc (Nat.le_refl _) _).alloc (by simp) _) (show ((w.alloc (.cells #[.string pa, .slice pp pl pc] 118)).alloc (.cells #[.slice q n c, .slice bp bl bc] 22)).cell? ⟨w.heap.size + 1, 0, none⟩ = _ from (cel (hea _ _ _ (by simp))).1) (show ((w.alloc (.cells #[.string pa, .slice pp pl pc] 118)).alloc (.cells #[.slice q n c, .slice bp bl bc] 22)).cell? ⟨w.heap.size + 1, 1, none⟩ = _ from (cel (hea _ _ _ (by simp))).2.1)).mono ?_; rintro e w2 ⟨q2, kc2, rfl, hown2, hb2⟩; have SV2 := hid (sv_own hown2); have hB2 := hid (kid_frame hb2); have hz2 := hB2.out.size; have kp2 := cel (kid_phrase hb2); have kb2 := ces (H.out.under hB2.out).heap; clear hown2 hb2)
  | (go_at_call 105; refine (HIH.out (ar ++ st.binds) _ _ _ _ (HK.out.below hB2.out hw) (Nat.le_trans hw hz2) SV2.out (by omega)).mono ?_; rintro e w3 hp; rw [HO.out] at hp; obtain ⟨a, rfl, hb3, hn3⟩ := hp.some; have hB3 := hid (hB2.out.trans (hb3.mono hz2)); have HN3 := hid hn3; have hz3 : w2.heap.size ≤ w3.heap.size := hb3.size; have k3 := ces (H.out.under hB3.out).heap; clear hb3 hn3; clear hp))
 all_goals
  go_wp2_with (go_at_call 88; refine (HS.out _ _ _ HN3.out).mono ?_; rintro e w5 ⟨rfl, rfl⟩)
  go_ret
  rw [HX.out]
  exact ⟨hB3.out.mono (by omega), rfl⟩
theorem addKid_none_false {w0 : World} {p : Tree} {h : Hd} (ih : TmAsk w0 p h) (b : Nat) (hd : ByteArray) (st : St) (ar : List ByteArray) (q : Option Addr) (n c : Nat) (w : World) (hst : Bld w b hd st) (hk : Kept w0 w) (hw : w0.heap.size ≤ w.heap.size) (hv : SV w q n c ar) (hn : n + st.binds.length + p.wt ≤ 12000) (ho : p.tm (ar ++ st.binds) = none) :
    Calls Tryz.prog 151 #[.pointer (some ⟨b, 0, none⟩), .agg #[.string h.a, .slice h.p h.l h.c], .string (vS false), .slice q n c] w (Par (addK false (p.tm (ar ++ st.binds)) st) b hd w) := by
 have HO := hid ho
 have HX := hid (show addK false (p.tm (ar ++ st.binds)) st = none by rw [ho]; rfl)
 clear ho
 obtain ⟨bp, bl, bc, kp, kl, kc, A, H0⟩ := hst
 have H := hid H0
 have hlt := lt_of_block H0.heap
 have hbl := H0.bl
 have k0 := ces H0.heap
 have HIH := hid ih
 have HK := hid hk
 have HV := hid hv
 have HSV := hid H0.sv
 rw [hbl] at hn
 have HCC := hid (fun (Wx : World) (g : Nat) (hkx : Kept w Wx) (e0 : Wx.cell? ⟨g, 0, none⟩ = some (.slice q n c)) (e1 : Wx.cell? ⟨g, 1, none⟩ = some (.slice bp bl bc)) => concat_two g 2 q bp n bl c bc ar st.binds Wx (HV.out.kept hkx) (HSV.out.kept hkx) (by omega) (by omega) e0 e1)
 clear H0 ih hk hv hbl
 obtain ⟨pa, pp, pl, pc⟩ := h
 go_enter Tryz.func151, Tryz.ntmps151
 go_wp2_with fail
 go_region_with (first
  | (go_at_call 159; refine (HCC.out ((w.alloc (.cells #[.string pa, .slice pp pl pc] 118)).alloc (.cells #[.slice q n c, .slice bp bl bc] 22)).drew (w.heap.size + 1) (show Kept w ((w.alloc (.cells #[.string pa, .slice pp pl pc] 118)).alloc (.cells #[.slice q n c, .slice bp bl bc] 22)) from ((Kept.refl w).alloc (Nat.le_refl _) _).alloc (by simp) _) (show ((w.alloc (.cells #[.string pa, .slice pp pl pc] 118)).alloc (.cells #[.slice q n c, .slice bp bl bc] 22)).cell? ⟨w.heap.size + 1, 0, none⟩ = _ from (cel (hea _ _ _ (by simp))).1) (show ((w.alloc (.cells #[.string pa, .slice pp pl pc] 118)).alloc (.cells #[.slice q n c, .slice bp bl bc] 22)).cell? ⟨w.heap.size + 1, 1, none⟩ = _ from (cel (hea _ _ _ (by simp))).2.1)).mono ?_; rintro e w2 ⟨q2, kc2, rfl, hown2, hb2⟩; have SV2 := hid (sv_own hown2); have hB2 := hid (kid_frame hb2); have hz2 := hB2.out.size; have kp2 := cel (kid_phrase hb2); have kb2 := ces (H.out.under hB2.out).heap; clear hown2 hb2)
  | (go_at_call 105; refine (HIH.out (ar ++ st.binds) _ _ _ _ (HK.out.below hB2.out hw) (Nat.le_trans hw hz2) SV2.out (by omega)).mono ?_; rintro e w3 hp; rw [HO.out] at hp; obtain ⟨rfl, hb3⟩ := hp.none; have hB3 := hid (hB2.out.trans (hb3.mono hz2)); clear hb3; clear hp))
 all_goals
  go_wp2_with fail
  go_ret
  rw [HX.out]
  exact ⟨hB3.out.mono (by omega), rfl⟩
theorem addKid_false_true {w0 : World} {p : Tree} {h : Hd} (ih : TmAsk w0 p h) (b : Nat) (hd : ByteArray) (st : St) (ar : List ByteArray) (q : Option Addr) (n c : Nat) (w : World) (hst : Bld w b hd st) (hk : Kept w0 w) (hw : w0.heap.size ≤ w.heap.size) (hv : SV w q n c ar) (hn : n + st.binds.length + p.wt ≤ 12000) (m : Tm) (ho : p.tm (ar ++ st.binds) = some m) (hm : m.isVal = true) :
    Calls Tryz.prog 151 #[.pointer (some ⟨b, 0, none⟩), .agg #[.string h.a, .slice h.p h.l h.c], .string strC, .slice q n c] w (Par (addK false (p.tm (ar ++ st.binds)) st) b hd w) := by
 have HO := hid ho
 have HX := hid (show addK false (p.tm (ar ++ st.binds)) st = none by rw [ho, addK]; simp [hm])
 have HS := hid (fun (W : World) (S : Nat → Prop) (a : Nat) (hn : NIn W S m a) => (show Calls Tryz.prog 88 #[.pointer (some ⟨a, 0, none⟩)] W fun e w' => e = .returned (.string strV) ∧ W = w' from by have := sort_node hn; rw [hm] at this; exact this))
 have e1 := vc_ne
 have e2 := cv_ne
 clear ho hm
 obtain ⟨bp, bl, bc, kp, kl, kc, A, H0⟩ := hst
 have H := hid H0
 have hlt := lt_of_block H0.heap
 have hbl := H0.bl
 have k0 := ces H0.heap
 have HIH := hid ih
 have HK := hid hk
 have HV := hid hv
 have HSV := hid H0.sv
 rw [hbl] at hn
 have HCC := hid (fun (Wx : World) (g : Nat) (hkx : Kept w Wx) (e0 : Wx.cell? ⟨g, 0, none⟩ = some (.slice q n c)) (e1 : Wx.cell? ⟨g, 1, none⟩ = some (.slice bp bl bc)) => concat_two g 2 q bp n bl c bc ar st.binds Wx (HV.out.kept hkx) (HSV.out.kept hkx) (by omega) (by omega) e0 e1)
 clear H0 ih hk hv hbl
 obtain ⟨pa, pp, pl, pc⟩ := h
 go_enter Tryz.func151, Tryz.ntmps151
 go_wp2_with fail
 go_region_with (first
  | (go_at_call 159; refine (HCC.out ((w.alloc (.cells #[.string pa, .slice pp pl pc] 118)).alloc (.cells #[.slice q n c, .slice bp bl bc] 22)).drew (w.heap.size + 1) (show Kept w ((w.alloc (.cells #[.string pa, .slice pp pl pc] 118)).alloc (.cells #[.slice q n c, .slice bp bl bc] 22)) from ((Kept.refl w).alloc (Nat.le_refl _) _).alloc (by simp) _) (show ((w.alloc (.cells #[.string pa, .slice pp pl pc] 118)).alloc (.cells #[.slice q n c, .slice bp bl bc] 22)).cell? ⟨w.heap.size + 1, 0, none⟩ = _ from (cel (hea _ _ _ (by simp))).1) (show ((w.alloc (.cells #[.string pa, .slice pp pl pc] 118)).alloc (.cells #[.slice q n c, .slice bp bl bc] 22)).cell? ⟨w.heap.size + 1, 1, none⟩ = _ from (cel (hea _ _ _ (by simp))).2.1)).mono ?_; rintro e w2 ⟨q2, kc2, rfl, hown2, hb2⟩; have SV2 := hid (sv_own hown2); have hB2 := hid (kid_frame hb2); have hz2 := hB2.out.size; have kp2 := cel (kid_phrase hb2); have kb2 := ces (H.out.under hB2.out).heap; clear hown2 hb2)
  | (go_at_call 105; refine (HIH.out (ar ++ st.binds) _ _ _ _ (HK.out.below hB2.out hw) (Nat.le_trans hw hz2) SV2.out (by omega)).mono ?_; rintro e w3 hp; rw [HO.out] at hp; obtain ⟨a, rfl, hb3, hn3⟩ := hp.some; have hB3 := hid (hB2.out.trans (hb3.mono hz2)); have HN3 := hid hn3; have hz3 : w2.heap.size ≤ w3.heap.size := hb3.size; have k3 := ces (H.out.under hB3.out).heap; clear hb3 hn3; clear hp))
 all_goals
  go_wp2_with (go_at_call 88; refine (HS.out _ _ _ HN3.out).mono ?_; rintro e w5 ⟨rfl, rfl⟩)
  go_ret
  rw [HX.out]
  exact ⟨hB3.out.mono (by omega), rfl⟩
theorem addKid_false_false {w0 : World} {p : Tree} {h : Hd} (ih : TmAsk w0 p h) (b : Nat) (hd : ByteArray) (st : St) (ar : List ByteArray) (q : Option Addr) (n c : Nat) (w : World) (hst : Bld w b hd st) (hk : Kept w0 w) (hw : w0.heap.size ≤ w.heap.size) (hv : SV w q n c ar) (hn : n + st.binds.length + p.wt ≤ 12000) (m : Tm) (ho : p.tm (ar ++ st.binds) = some m) (hm : m.isVal = false) (hkn : st.kids.length ≤ 1000) :
    Calls Tryz.prog 151 #[.pointer (some ⟨b, 0, none⟩), .agg #[.string h.a, .slice h.p h.l h.c], .string strC, .slice q n c] w (Par (addK false (p.tm (ar ++ st.binds)) st) b hd w) := by
 have HO := hid ho
 have HX := hid (show addK false (p.tm (ar ++ st.binds)) st = some { st with kids := st.kids ++ [m] } by rw [ho, addK]; simp [hm])
 have HS := hid (fun (W : World) (S : Nat → Prop) (a : Nat) (hn : NIn W S m a) => (show Calls Tryz.prog 88 #[.pointer (some ⟨a, 0, none⟩)] W fun e w' => e = .returned (.string strC) ∧ W = w' from by have := sort_node hn; rw [hm] at this; exact this))
 have e1 := vc_ne
 have e2 := cv_ne
 clear ho hm
 obtain ⟨bp, bl, bc, kp, kl, kc, A, H0⟩ := hst
 have H := hid H0
 have hlt := lt_of_block H0.heap
 have hbl := H0.bl
 have k0 := ces H0.heap
 have HIH := hid ih
 have HK := hid hk
 have HV := hid hv
 have HSV := hid H0.sv
 rw [hbl] at hn
 have HCC := hid (fun (Wx : World) (g : Nat) (hkx : Kept w Wx) (e0 : Wx.cell? ⟨g, 0, none⟩ = some (.slice q n c)) (e1 : Wx.cell? ⟨g, 1, none⟩ = some (.slice bp bl bc)) => concat_two g 2 q bp n bl c bc ar st.binds Wx (HV.out.kept hkx) (HSV.out.kept hkx) (by omega) (by omega) e0 e1)
 clear H0 ih hk hv hbl
 obtain ⟨pa, pp, pl, pc⟩ := h
 obtain ⟨i0, hi0, hz0, hz1, hz2'⟩ := info_parts Tryz.infoPtr
 have hkl := H.out.hkl
 rw [hkl] at hkn
 clear hkl
 go_enter Tryz.func151, Tryz.ntmps151
 go_wp2_with fail
 go_region_with (first
  | (go_at_call 159; refine (HCC.out ((w.alloc (.cells #[.string pa, .slice pp pl pc] 118)).alloc (.cells #[.slice q n c, .slice bp bl bc] 22)).drew (w.heap.size + 1) (show Kept w ((w.alloc (.cells #[.string pa, .slice pp pl pc] 118)).alloc (.cells #[.slice q n c, .slice bp bl bc] 22)) from ((Kept.refl w).alloc (Nat.le_refl _) _).alloc (by simp) _) (show ((w.alloc (.cells #[.string pa, .slice pp pl pc] 118)).alloc (.cells #[.slice q n c, .slice bp bl bc] 22)).cell? ⟨w.heap.size + 1, 0, none⟩ = _ from (cel (hea _ _ _ (by simp))).1) (show ((w.alloc (.cells #[.string pa, .slice pp pl pc] 118)).alloc (.cells #[.slice q n c, .slice bp bl bc] 22)).cell? ⟨w.heap.size + 1, 1, none⟩ = _ from (cel (hea _ _ _ (by simp))).2.1)).mono ?_; rintro e w2 ⟨q2, kc2, rfl, hown2, hb2⟩; have SV2 := hid (sv_own hown2); have hB2 := hid (kid_frame hb2); have hz2 := hB2.out.size; have kp2 := cel (kid_phrase hb2); have kb2 := ces (H.out.under hB2.out).heap; clear hown2 hb2)
  | (go_at_call 105; refine (HIH.out (ar ++ st.binds) _ _ _ _ (HK.out.below hB2.out hw) (Nat.le_trans hw hz2) SV2.out (by omega)).mono ?_; rintro e w3 hp; rw [HO.out] at hp; obtain ⟨a, rfl, hb3, hn3⟩ := hp.some; have hB3 := hid (hB2.out.trans (hb3.mono hz2)); have HN3 := hid hn3; have hz3 : w2.heap.size ≤ w3.heap.size := hb3.size; have k3 := ces (H.out.under hB3.out).heap; clear hb3 hn3; clear hp))
 all_goals
  go_wp2_with (first
   | (at_builtin; refine wpl _ rfl (.tmp 35) (.tmp 37) 68 rfl (b + 1) 50 i0 (.pointer none) 1 8 Tryz.underlying68 hi0 hz0 hz1 hz2' rfl (by decide) (.slice kp kl kc) kl _ rfl ((ows H.out.kids hB3.out).alloc _) ⟨w3.heap.size, 0, none⟩ 1 1 [.pointer (some ⟨a, 0, none⟩)] rfl rfl (cen _ _ _ _ rfl) (by intro u hu; simp at hu; subst hu; rfl) (by decide) (by unfold maxLen; omega) (by omega) (by simp; omega) ?_; intro v' w4 hown4 hg4 hw4 hv4; obtain ⟨g2, kc4, rfl⟩ := hv4; have hko : (Value.slice kp kl kc).ownBlock ≠ some b := (fun e => by have := (H.out.kids.lt b e).1; omega); have m4 := ces (blc ((H.out.under (hB3.out.alloc (by omega) (.cells #[.pointer (some ⟨a, 0, none⟩)] 50))).heap) hg4 hko); have HG := hid hg4; have HO4 := hid hown4; have HW := hid hw4; clear hg4 hown4 hw4 hko)
   | (go_at_call 88; refine (HS.out _ _ _ HN3.out).mono ?_; rintro e w5 ⟨rfl, rfl⟩))
  go_ret
  rw [HX.out]
  have hBa := hB3.out.alloc (by omega) (.cells #[.pointer (some ⟨a, 0, none⟩)] 50)
  have hfin := (H.out.under hBa).kid (m := m) (a := a) (HN3.out.keep (fun k _ hl => heap_alloc_old w3 _ hl) (fun x hx _ => ⟨by omega, fun e => by have := (H.out.binds.lt x e).2; omega, fun e => by have := (H.out.kids.lt x e).2; omega⟩)) HO4.out HG.out HW.out
  refine ⟨?_, rfl, _, _, _, _, _, _, _, hfin⟩
  exact ((((hB3.out.mono (show b ≤ w.heap.size by omega)).alloc (by omega) _).grown HG.out (by simp; omega) (fun k e => by have := (H.out.kids.lt k e).1; omega)).setCell (Nat.le_refl _) _)
theorem addKid_any {w0 : World} {p : Tree} {h : Hd} (ih : TmAsk w0 p h) (v : Bool) (b : Nat) (hd : ByteArray) (st : St) (ar : List ByteArray) (q : Option Addr) (n c : Nat) (w : World) (hst : Bld w b hd st) (hk : Kept w0 w) (hw : w0.heap.size ≤ w.heap.size) (hv : SV w q n c ar) (hn : n + st.binds.length + p.wt ≤ 12000) (hkn : st.kids.length ≤ 1000) :
    Calls Tryz.prog 151 #[.pointer (some ⟨b, 0, none⟩), .agg #[.string h.a, .slice h.p h.l h.c], .string (vS v), .slice q n c] w (Par (addK v (p.tm (ar ++ st.binds)) st) b hd w) := by
 cases ho : p.tm (ar ++ st.binds) with
 | none =>
  rw [← ho]
  cases v with
  | true => exact addKid_none_true ih b hd st ar q n c w hst hk hw hv hn ho
  | false => exact addKid_none_false ih b hd st ar q n c w hst hk hw hv hn ho
 | some m =>
  rw [← ho]
  cases v with
  | true =>
   cases hm : m.isVal with
   | true => exact addKid_true_true ih b hd st ar q n c w hst hk hw hv hn m ho hm hkn
   | false => exact addKid_true_false ih b hd st ar q n c w hst hk hw hv hn m ho hm
  | false =>
   cases hm : m.isVal with
   | true => exact addKid_false_true ih b hd st ar q n c w hst hk hw hv hn m ho hm
   | false => exact addKid_false_false ih b hd st ar q n c w hst hk hw hv hn m ho hm hkn
def add1 (ar : List ByteArray) (c : Sg) (p : Tree) (st : St) : Option St := match c with
 | .X => addX p.text st
 | .A => addT true p st
 | .C => addT false p st
 | .V => addK true (p.tm (ar ++ st.binds)) st
 | .M => addK false (p.tm (ar ++ st.binds)) st
theorem parts_cons (ar : List ByteArray) (c : Sg) (cs : List Sg) (p : Tree) (ps : List Tree) (st : St) : Tree.parts ar (c :: cs) (p :: ps) st = match add1 ar c p st with
    | some st' => Tree.parts ar cs ps st'
    | none => none := by
 cases c <;> rw [Tree.parts] <;> rfl
theorem Par.behind {o : Option St} {b : Nat} {hd : ByteArray} {w w1 w2 : World} {e : Ending} (h : Par o b hd w1 e w2) (hb : Below b w w1) : Par o b hd w e w2 := ⟨hb.trans h.1, h.2⟩
theorem Par.bool {o : Option St} {b : Nat} {hd : ByteArray} {w w2 : World} {e : Ending} (h : Par o b hd w e w2) : e = .returned (.bool o.isSome) ∧ Par o b hd w (.returned (.bool o.isSome)) w2 := by
 cases o with
 | none => have := h.none; exact ⟨this.1, this.1 ▸ h⟩
 | some st => have := h.some; exact ⟨this.1, this.1 ▸ h⟩
theorem addPart_X {w0 : World} {S : Nat → Prop} {p : Tree} {h : Hd} (ht : TIn w0 S p h) (hok : p.ok) (b : Nat) (hd : ByteArray) (st : St) (q : Option Addr) (n cc : Nat) (w : World) (hst : Bld w b hd st) (hbn : st.binds.length ≤ 1000) :
    Calls Tryz.prog 134 #[.pointer (some ⟨b, 0, none⟩), .int .u8 120, .agg #[.string h.a, .slice h.p h.l h.c], .slice q n cc] w (Par (addX p.text st) b hd w) := by
 obtain ⟨hlt, H1⟩ : b < w.heap.size ∧ Hid (∀ (o : Obj), Bld (w.alloc o) b hd st) := by
  obtain ⟨bp, bl, bc, kp, kl, kc, A, H0⟩ := hst
  exact ⟨lt_of_block H0.heap, fun o => ⟨bp, bl, bc, kp, kl, kc, A, H0.under ((Below.refl _ _).alloc (Nat.le_refl _) _)⟩⟩
 have hB := hid (fun (o : Obj) => (((Below.refl w.heap.size w).alloc (Nat.le_refl _) o).mono (show b ≤ w.heap.size by omega)))
 have HX := hid (fun W (hb : Bld W b hd st) => addBound_any h.a (by rw [ht.text]; have := (text_ok hok).1; omega) b hd st W hb hbn)
 rw [← ht.text]
 obtain ⟨O, hO⟩ : ∃ O, addX h.a st = O := ⟨_, rfl⟩
 rw [hO] at HX ⊢
 clear ht hok hst hO
 obtain ⟨pa, pp, pl, pc⟩ := h
 go_enter Tryz.func134, Tryz.ntmps134
 go_wp2_with (go_at_call 149; refine (HX.out _ (H1.out _)).mono ?_; rintro e w1 hp; obtain ⟨rfl, hq⟩ := hp.bool; have HP := hid (hq.behind (hB.out _)); clear hp hq)
 go_ret
 exact HP.out
theorem addPart_A {w0 : World} {S : Nat → Prop} {p : Tree} {h : Hd} (ht : TIn w0 S p h) (hwt : p.wt ≤ 12000) (hok : p.ok) (b : Nat) (hd : ByteArray) (st : St) (q : Option Addr) (n cc : Nat) (w : World) (hst : Bld w b hd st) (hk : Kept w0 w) (hw : w0.heap.size ≤ w.heap.size)  :
    Calls Tryz.prog 134 #[.pointer (some ⟨b, 0, none⟩), .int .u8 65, .agg #[.string h.a, .slice h.p h.l h.c], .slice q n cc] w (Par (addT true p st) b hd w) := by
 obtain ⟨hlt, H1⟩ : b < w.heap.size ∧ Hid (∀ (o : Obj), Bld (w.alloc o) b hd st) := by
  obtain ⟨bp, bl, bc, kp, kl, kc, A, H0⟩ := hst
  exact ⟨lt_of_block H0.heap, fun o => ⟨bp, bl, bc, kp, kl, kc, A, H0.under ((Below.refl _ _).alloc (Nat.le_refl _) _)⟩⟩
 have HK := hid (fun o => hk.alloc hw o)
 have hB := hid (fun (o : Obj) => (((Below.refl w.heap.size w).alloc (Nat.le_refl _) o).mono (show b ≤ w.heap.size by omega)))
 have HX := hid (fun W (hb : Bld W b hd st) hk hw => addType_any ht hwt hok true b hd st W hb hk hw)
 obtain ⟨O, hO⟩ : ∃ O, addT true p st = O := ⟨_, rfl⟩
 rw [hO] at HX ⊢
 clear ht hok hst hk hO
 obtain ⟨pa, pp, pl, pc⟩ := h
 go_enter Tryz.func134, Tryz.ntmps134
 go_wp2_with (go_at_call 150; refine (HX.out _ (H1.out _) (HK.out _) (by simp; omega)).mono ?_; rintro e w1 hp; obtain ⟨rfl, hq⟩ := hp.bool; have HP := hid (hq.behind (hB.out _)); clear hp hq)
 go_ret
 exact HP.out
theorem addPart_C {w0 : World} {S : Nat → Prop} {p : Tree} {h : Hd} (ht : TIn w0 S p h) (hwt : p.wt ≤ 12000) (hok : p.ok) (b : Nat) (hd : ByteArray) (st : St) (q : Option Addr) (n cc : Nat) (w : World) (hst : Bld w b hd st) (hk : Kept w0 w) (hw : w0.heap.size ≤ w.heap.size)  :
    Calls Tryz.prog 134 #[.pointer (some ⟨b, 0, none⟩), .int .u8 67, .agg #[.string h.a, .slice h.p h.l h.c], .slice q n cc] w (Par (addT false p st) b hd w) := by
 obtain ⟨hlt, H1⟩ : b < w.heap.size ∧ Hid (∀ (o : Obj), Bld (w.alloc o) b hd st) := by
  obtain ⟨bp, bl, bc, kp, kl, kc, A, H0⟩ := hst
  exact ⟨lt_of_block H0.heap, fun o => ⟨bp, bl, bc, kp, kl, kc, A, H0.under ((Below.refl _ _).alloc (Nat.le_refl _) _)⟩⟩
 have HK := hid (fun o => hk.alloc hw o)
 have hB := hid (fun (o : Obj) => (((Below.refl w.heap.size w).alloc (Nat.le_refl _) o).mono (show b ≤ w.heap.size by omega)))
 have HX := hid (fun W (hb : Bld W b hd st) hk hw => addType_any ht hwt hok false b hd st W hb hk hw)
 obtain ⟨O, hO⟩ : ∃ O, addT false p st = O := ⟨_, rfl⟩
 rw [hO] at HX ⊢
 clear ht hok hst hk hO
 obtain ⟨pa, pp, pl, pc⟩ := h
 go_enter Tryz.func134, Tryz.ntmps134
 go_wp2_with (go_at_call 150; refine (HX.out _ (H1.out _) (HK.out _) (by simp; omega)).mono ?_; rintro e w1 hp; obtain ⟨rfl, hq⟩ := hp.bool; have HP := hid (hq.behind (hB.out _)); clear hp hq)
 go_ret
 exact HP.out
theorem addPart_V {w0 : World} {p : Tree} {h : Hd} (ih : TmAsk w0 p h) (b : Nat) (hd : ByteArray) (st : St) (ar : List ByteArray) (q : Option Addr) (n cc : Nat) (w : World) (hst : Bld w b hd st) (hk : Kept w0 w) (hw : w0.heap.size ≤ w.heap.size) (hv : SV w q n cc ar)
    (hn : n + st.binds.length + p.wt ≤ 12000) (hkn : st.kids.length ≤ 1000) :
    Calls Tryz.prog 134 #[.pointer (some ⟨b, 0, none⟩), .int .u8 86, .agg #[.string h.a, .slice h.p h.l h.c], .slice q n cc] w (Par (addK true (p.tm (ar ++ st.binds)) st) b hd w) := by
 obtain ⟨hlt, H1⟩ : b < w.heap.size ∧ Hid (∀ (o : Obj), Bld (w.alloc o) b hd st) := by
  obtain ⟨bp, bl, bc, kp, kl, kc, A, H0⟩ := hst
  exact ⟨lt_of_block H0.heap, fun o => ⟨bp, bl, bc, kp, kl, kc, A, H0.under ((Below.refl _ _).alloc (Nat.le_refl _) _)⟩⟩
 have HK := hid (fun o => hk.alloc hw o)
 have hB := hid (fun (o : Obj) => (((Below.refl w.heap.size w).alloc (Nat.le_refl _) o).mono (show b ≤ w.heap.size by omega)))
 have HX := hid (fun W (hb : Bld W b hd st) hk hw hv => addKid_any ih true b hd st ar q n cc W hb hk hw hv hn hkn)
 have HV := hid (fun o => hv.kept ((Kept.refl w).alloc (Nat.le_refl _) o))
 obtain ⟨O, hO⟩ : ∃ O, addK true (p.tm (ar ++ st.binds)) st = O := ⟨_, rfl⟩
 rw [hO] at HX ⊢
 clear ih hst hk hv hO
 obtain ⟨pa, pp, pl, pc⟩ := h
 go_enter Tryz.func134, Tryz.ntmps134
 go_wp2_with (go_at_call 151; refine (HX.out _ (H1.out _) (HK.out _) (by simp; omega) (HV.out _)).mono ?_; rintro e w1 hp; obtain ⟨rfl, hq⟩ := hp.bool; have HP := hid (hq.behind (hB.out _)); clear hp hq)
 go_ret
 exact HP.out
theorem addPart_M {w0 : World} {p : Tree} {h : Hd} (ih : TmAsk w0 p h) (b : Nat) (hd : ByteArray) (st : St) (ar : List ByteArray) (q : Option Addr) (n cc : Nat) (w : World) (hst : Bld w b hd st) (hk : Kept w0 w) (hw : w0.heap.size ≤ w.heap.size) (hv : SV w q n cc ar)
    (hn : n + st.binds.length + p.wt ≤ 12000) (hkn : st.kids.length ≤ 1000) :
    Calls Tryz.prog 134 #[.pointer (some ⟨b, 0, none⟩), .int .u8 77, .agg #[.string h.a, .slice h.p h.l h.c], .slice q n cc] w (Par (addK false (p.tm (ar ++ st.binds)) st) b hd w) := by
 obtain ⟨hlt, H1⟩ : b < w.heap.size ∧ Hid (∀ (o : Obj), Bld (w.alloc o) b hd st) := by
  obtain ⟨bp, bl, bc, kp, kl, kc, A, H0⟩ := hst
  exact ⟨lt_of_block H0.heap, fun o => ⟨bp, bl, bc, kp, kl, kc, A, H0.under ((Below.refl _ _).alloc (Nat.le_refl _) _)⟩⟩
 have HK := hid (fun o => hk.alloc hw o)
 have hB := hid (fun (o : Obj) => (((Below.refl w.heap.size w).alloc (Nat.le_refl _) o).mono (show b ≤ w.heap.size by omega)))
 have HX := hid (fun W (hb : Bld W b hd st) hk hw hv => addKid_any ih false b hd st ar q n cc W hb hk hw hv hn hkn)
 have HV := hid (fun o => hv.kept ((Kept.refl w).alloc (Nat.le_refl _) o))
 obtain ⟨O, hO⟩ : ∃ O, addK false (p.tm (ar ++ st.binds)) st = O := ⟨_, rfl⟩
 rw [hO] at HX ⊢
 clear ih hst hk hv hO
 obtain ⟨pa, pp, pl, pc⟩ := h
 go_enter Tryz.func134, Tryz.ntmps134
 go_wp2_with (go_at_call 151; refine (HX.out _ (H1.out _) (HK.out _) (by simp; omega) (HV.out _)).mono ?_; rintro e w1 hp; obtain ⟨rfl, hq⟩ := hp.bool; have HP := hid (hq.behind (hB.out _)); clear hp hq)
 go_ret
 exact HP.out
theorem addPart_any {w0 : World} {S : Nat → Prop} {p : Tree} {h : Hd} (ht : TIn w0 S p h) (hwt : p.wt ≤ 12000) (hok : p.ok) (ih : TmAsk w0 p h) (b : Nat) (hd : ByteArray) (st : St) (ar : List ByteArray) (q : Option Addr) (n cc : Nat) (w : World) (hst : Bld w b hd st) (hk : Kept w0 w) (hw : w0.heap.size ≤ w.heap.size) (hv : SV w q n cc ar)
    (hn : n + st.binds.length + p.wt ≤ 12000) (hkn : st.kids.length ≤ 1000) (hbn : st.binds.length ≤ 1000) (c : Sg) :
    Calls Tryz.prog 134 #[.pointer (some ⟨b, 0, none⟩), .int .u8 (c.up.toNat : Int), .agg #[.string h.a, .slice h.p h.l h.c], .slice q n cc] w (Par (add1 ar c p st) b hd w) := by
 cases c with
 | X => exact addPart_X ht hok b hd st q n cc w hst hbn
 | A => exact addPart_A ht hwt hok b hd st q n cc w hst hk hw
 | C => exact addPart_C ht hwt hok b hd st q n cc w hst hk hw
 | V => exact addPart_V ih b hd st ar q n cc w hst hk hw hv hn hkn
 | M => exact addPart_M ih b hd st ar q n cc w hst hk hw hv hn hkn
theorem termOfAtom_any (s : ByteArray) (hs : s.size ≤ 400000000) (ar : List ByteArray) (q : Option Addr) (n c : Nat) (w : World) (hv : SV w q n c ar) (hn : n ≤ 100000) :
    Calls Tryz.prog 133 #[.string s, .slice q n c] w (TmPost (atomTm ar s) w) := by
 have HN := hid (fun W => isName_any s hs W)
 have HD := hid (fun W (hk : Kept w W) => depthOf_any s ar q n c W (hv.kept hk) hn)
 clear hv
 cases e0 : s.toList == [48] with
 | true =>
  have HA := hid (show atomTm ar s = some (.mk strBit s (-1) [] none []) by rw [atomTm, if_pos (Or.inl (eq_t e0))])
  go_enter Tryz.func133, Tryz.ntmps133
  go_wp2_with fail
  go_ret2
  rw [HA.out]
  exact ⟨(Below.refl _ _).alloc (Nat.le_refl _) _, w.heap.size, rfl, leaf_in (hea _ _ _ rfl) (Nat.le_refl _)⟩
 | false =>
  cases e1 : s.toList == [49] with
  | true =>
   have HA := hid (show atomTm ar s = some (.mk strBit s (-1) [] none []) by rw [atomTm, if_pos (Or.inr (eq_t e1))])
   go_enter Tryz.func133, Tryz.ntmps133
   go_wp2_with fail
   go_ret2
   rw [HA.out]
   exact ⟨(Below.refl _ _).alloc (Nat.le_refl _) _, w.heap.size, rfl, leaf_in (hea _ _ _ rfl) (Nat.le_refl _)⟩
  | false =>
   have hno : ¬ (s.toList = [48] ∨ s.toList = [49]) := by
    simp only [beq_eq_false_iff_ne, ne_eq] at e0 e1
    exact fun h => h.elim e0 e1
   cases hnm : nameB s.toList with
   | false =>
    have HA := hid (show atomTm ar s = none by rw [atomTm, if_neg hno, if_neg (by rw [hnm]; simp)])
    rw [hnm] at HN
    clear hnm hno
    go_enter Tryz.func133, Tryz.ntmps133
    go_wp2_with (go_at_call 51; refine (HN.out _).mono ?_; rintro e w1 ⟨rfl, hb1⟩)
    go_ret2
    rw [HA.out]
    exact ⟨hb1, rfl⟩
   | true =>
    have HA := hid (show atomTm ar s = some (.mk strName s (depthIn s.toList ar) [] none []) by rw [atomTm, if_neg hno, if_pos hnm])
    rw [hnm] at HN
    obtain ⟨D, hD⟩ : ∃ D, depthIn s.toList ar = D := ⟨_, rfl⟩
    rw [hD] at HA HD
    clear hnm hno hD
    go_enter Tryz.func133, Tryz.ntmps133
    go_wp2_with (first | (go_at_call 51; refine (HN.out _).mono ?_; rintro e w1 ⟨rfl, hb1⟩) | (go_at_call 148; refine (HD.out _ (Kept.of_below hb1 (Nat.le_refl _))).mono ?_; rintro e w2 ⟨rfl, rfl⟩))
    go_ret2
    rw [HA.out]
    have hz := hb1.size
    exact ⟨hb1.alloc hz _, w1.heap.size, rfl, leaf_in (hea _ _ _ rfl) hz⟩
theorem add1_len {ar : List ByteArray} {c : Sg} {p : Tree} {st st' : St} (h : add1 ar c p st = some st') : st'.binds.length ≤ st.binds.length + 1 ∧ st'.binds.length + st'.kids.length ≤ st.binds.length + st.kids.length + 1 := by
 cases c with
 | X => obtain ⟨_, e⟩ := adx h; rw [e]; simp; omega
 | A => obtain ⟨_, _, e⟩ := adt h; rw [e]; simp
 | C => obtain ⟨_, _, e⟩ := adt h; rw [e]; simp
 | V => obtain ⟨_, _, e⟩ := adk h; rw [e]; simp; omega
 | M => obtain ⟨_, _, e⟩ := adk h; rw [e]; simp; omega
theorem upS_size (l : List Sg) : (upS l).size = l.length := by simp [upS, ByteArray.size]
theorem upS_get (l : List Sg) (i : Nat) (c : Sg) (h : l[i]? = some c) (hi : i < (upS l).size) : (upS l)[i] = c.up := by
 have h1 := toList_get (upS l) i hi
 rw [Go.ByteArray.toList_eq] at h1
 simp [upS, h] at h1
 exact h1.symm
theorem wts_drop (l : List Tree) (i : Nat) (p : Tree) (h : l[i]? = some p) : Tree.wts (l.drop i) = p.wt + Tree.wts (l.drop (i + 1)) := by
 have hi := (List.getElem?_eq_some_iff.1 h)
 rw [List.drop_eq_getElem_cons hi.1, Tree.wts, hi.2]
theorem tm_no {ar : List ByteArray} {q : Tree} {qs : List Tree} (h : shape q.text.toList = [] ∨ (shape q.text.toList).length ≠ qs.length) : Tree.tm ar (.node (q :: qs)) = none := by
 rw [Tree.tm, if_pos h]
theorem tm_go {ar : List ByteArray} {q : Tree} {qs : List Tree} (h0 : shape q.text.toList ≠ []) (h : (shape q.text.toList).length = qs.length) {R : Option St} (hR : Tree.parts ar (shape q.text.toList) qs St.none = R) :
    Tree.tm ar (.node (q :: qs)) = R.map fun st => .mk q.text ByteArray.empty 0 st.binds st.ty st.kids := by
 rw [Tree.tm, if_neg (fun hh => hh.elim h0 (fun e => e h)), hR]
 cases R <;> rfl
theorem term_atom (w0 : World) (s : ByteArray) (_hne : s.size ≠ 0) (hm : s.size ≤ 400000000) : TmAsk w0 (.atom s) ⟨s, none, 0, 0⟩ := by
 intro ar q n c w hk hw hv hn
 have HA := hid (fun W (hk : Kept w W) => termOfAtom_any s hm ar q n c W (hv.kept hk) (by omega))
 clear hv hk
 rw [Tree.tm]
 obtain ⟨O, hO⟩ : ∃ O, atomTm ar s = O := ⟨_, rfl⟩
 rw [hO] at HA ⊢
 clear hO
 cases O with
 | none =>
  go_enter Tryz.func105, Tryz.ntmps105
  go_wp2_with (go_at_call 133; refine (HA.out _ ((Kept.refl w).alloc (Nat.le_refl _) _)).mono ?_; rintro e w1 hp; obtain ⟨rfl, hb1⟩ := hp.none; clear hp)
  go_ret2
  exact ⟨((Below.refl _ _).alloc (Nat.le_refl _) _).trans (hb1.mono (by simp)), rfl⟩
 | some m =>
  go_enter Tryz.func105, Tryz.ntmps105
  go_wp2_with (go_at_call 133; refine (HA.out _ ((Kept.refl w).alloc (Nat.le_refl _) _)).mono ?_; rintro e w1 hp; obtain ⟨a, rfl, hb1, hn1⟩ := hp.some; have HN1 := hid hn1; clear hp hn1)
  go_ret2
  exact ⟨((Below.refl _ _).alloc (Nat.le_refl _) _).trans (hb1.mono (by simp)), a, rfl, HN1.out.keep (fun _ _ _ => rfl) (fun k hk _ => by simp at hk; omega)⟩
theorem term_no {w0 : World} {q : Tree} {qs : List Tree} {b cap n : Nat} {A : Nat → Hd} (hn : qs.length = n) (hl : n + 1 ≤ cap) (hc : cap ≤ maxLen) (hn2 : n ≤ 12000) (hq : (A 0).a = q.text) (c0 : w0.cell? ⟨b, 0, none⟩ = some (.string (A 0).a)) (ar : List ByteArray) (p : Option Addr) (na c : Nat) (w : World) (hk : Kept w0 w)
    (hno : shape q.text.toList = [] ∨ (shape q.text.toList).length ≠ qs.length) :
    Calls Tryz.prog 105 #[.agg #[.string ByteArray.empty, .slice (some ⟨b, 0, none⟩) (n + 1) cap], .slice p na c] w (TmPost (Tree.tm ar (.node (q :: qs))) w) := by
 rw [tm_no hno]
 have c1 := hk.cell c0
 have HF := hid (fun W => (formOf_any (A 0).a W).mono fun e w' h => (⟨h.1, h.2.symm⟩ : _ ∧ w' = W))
 rw [hq] at HF c1
 have hsz := upS_size (shape q.text.toList)
 obtain ⟨F, hF⟩ : ∃ F, upS (shape q.text.toList) = F := ⟨_, rfl⟩
 rw [hF] at HF hsz
 have c2 : ∀ o, (w.alloc o).cell? ⟨b, 0, none⟩ = some (.string q.text) := fun o => (World.cell?_of_block (w := w) (heap_alloc_old w o (World.block_lt_of_cell? w _ c1))).trans c1
 have d0 : ((n : Int) + 1 == 0) = false := beq_eq_false_iff_ne.2 (by omega)
 unfold maxLen at hc
 have hwn : w.heap.size ≤ w.heap.size := Nat.le_refl _
 clear hk c0 hq hF
 by_cases he : F.size = 0
 ·have f1 := isEmpty_of F he
  clear hno hsz he
  by_cases hcap : cap = 1
  ·obtain rfl : n = 0 := by omega
   subst hcap
   go_enter Tryz.func105, Tryz.ntmps105
   go_wp2_with fail
   go_quiet ((go_at_call 110; exact Calls.quiet_of_same (HF.out _)))
   go_wp2_with fail
   go_ret2
   exact ⟨below_drewN (((Below.refl _ _).alloc (by simp) _).alloc (by simp) _) _, rfl⟩
  ·go_enter Tryz.func105, Tryz.ntmps105
   go_wp2_with fail
   go_quiet ((go_at_call 110; exact Calls.quiet_of_same (HF.out _)))
   go_wp2_with fail
   go_ret2
   exact ⟨below_drewN (((Below.refl _ _).alloc (by simp) _).alloc (by simp) _) _, rfl⟩
 ·have f1 := ise F he
  have f2 : ((F.size : Int) != (n : Int)) = true := by
   refine bne_iff_ne.2 ?_
   rcases hno with h | h
   ·rw [h, List.length_nil] at hsz; omega
   ·omega
  have f3 : F.size ≤ 9223372036854775807 := by
   have := shp q.text.toList
   have : (shape q.text.toList).length ≤ 4 := by
    rcases this with ⟨_, e⟩ | ⟨_, e⟩
    ·rw [e]; decide
    ·rcases e with e | e | e | e | e | e | e | e | e | e | e | e <;> (rw [e]; decide)
   omega
  clear hno hsz he
  by_cases hcap : cap = 1
  ·obtain rfl : n = 0 := by omega
   subst hcap
   go_enter Tryz.func105, Tryz.ntmps105
   go_wp2_with fail
   go_quiet ((go_at_call 110; exact Calls.quiet_of_same (HF.out _)))
   go_wp2_with fail
   go_ret2
   exact ⟨below_drewN (((Below.refl _ _).alloc (by simp) _).alloc (by simp) _) _, rfl⟩
  ·go_enter Tryz.func105, Tryz.ntmps105
   go_wp2_with fail
   go_quiet ((go_at_call 110; exact Calls.quiet_of_same (HF.out _)))
   go_wp2_with fail
   go_ret2
   exact ⟨below_drewN (((Below.refl _ _).alloc (by simp) _).alloc (by simp) _) _, rfl⟩
theorem Bld.under {w w' : World} {b : Nat} {hd : ByteArray} {st : St} (h : Bld w b hd st) (hb : Below w.heap.size w w') : Bld w' b hd st := by
 obtain ⟨bp, bl, bc, kp, kl, kc, A, H⟩ := h
 exact ⟨bp, bl, bc, kp, kl, kc, A, H.under hb⟩
theorem Bld.done {w : World} {b B : Nat} {hd : ByteArray} {st : St} (h : Bld w b hd st) (hB : B ≤ b) : NIn w (fun k => B ≤ k) (.mk hd ByteArray.empty 0 st.binds st.ty st.kids) b := by
 obtain ⟨bp, bl, bc, kp, kl, kc, A, H⟩ := h
 exact H.done.keep (fun _ _ _ => rfl) (fun k hk _ => by omega)
theorem term_go {w0 : World} {S : Nat → Prop} {q : Tree} {qs : List Tree} {b cap n : Nat} {A : Nat → Hd} (hn : qs.length = n) (hl : n + 1 ≤ cap) (hc : cap ≤ maxLen) (hwt : 1 + Tree.wts (q :: qs) ≤ 12000) (hok : Tree.oks (q :: qs)) (hq : (A 0).a = q.text)
    (hA : ∀ i, i < n + 1 → w0.cell? ⟨b, i * 2, none⟩ = some (.string (A i).a)) (hB : ∀ i, i < n + 1 → w0.cell? ⟨b, i * 2 + 1, none⟩ = some (.slice (A i).p (A i).l (A i).c))
    (hps : ∀ i p, (q :: qs)[i]? = some p → TIn w0 S p (A i)) (ih : ∀ i p, (q :: qs)[i]? = some p → TmAsk w0 p (A i))
    (ar : List ByteArray) (sp : Option Addr) (na sc : Nat) (w : World) (hk : Kept w0 w) (hw : w0.heap.size ≤ w.heap.size) (hv : SV w sp na sc ar) (hna : na + (1 + Tree.wts (q :: qs)) ≤ 12000)
    (h0 : shape q.text.toList ≠ []) (hsl : (shape q.text.toList).length = qs.length) :
    Calls Tryz.prog 105 #[.agg #[.string ByteArray.empty, .slice (some ⟨b, 0, none⟩) (n + 1) cap], .slice sp na sc] w (TmPost (Tree.tm ar (.node (q :: qs))) w) := by
 obtain ⟨R, hR⟩ : ∃ R, Tree.parts ar (shape q.text.toList) qs St.none = R := ⟨_, rfl⟩
 rw [tm_go h0 hsl hR]
 have hlen := wtl (q :: qs)
 have hlq : (q :: qs).length = n + 1 := by simp [hn]
 rw [hlq] at hlen
 have hwq : Tree.wts (q :: qs) = q.wt + Tree.wts qs := rfl
 have hwp := wt_pos q
 have hn0 : 1 ≤ n := by
  rw [← hn, ← hsl]
  cases hs : shape q.text.toList with
  | nil => exact absurd hs h0
  | cons c l => simp
 have hcap : ¬ cap = 1 := by omega
 unfold maxLen at hc
 have hn2 : n ≤ 12000 := by omega
 have hn4 : n ≤ 4 := by
  rw [← hn, ← hsl]
  rcases shp q.text.toList with ⟨_, e⟩ | ⟨_, e⟩
  ·rw [e]; decide
  ·rcases e with e | e | e | e | e | e | e | e | e | e | e | e <;> (rw [e]; decide)
 have c1 : w.cell? ⟨b, 0, none⟩ = some (.string q.text) := by have := hk.cell (hA 0 (by omega)); rw [hq] at this; simpa using this
 have c2 : ∀ o, (w.alloc o).cell? ⟨b, 0, none⟩ = some (.string q.text) := fun o => (World.cell?_of_block (w := w) (heap_alloc_old w o (World.block_lt_of_cell? w _ c1))).trans c1
 have HF := hid (fun W => (formOf_any q.text W).mono fun e w' h => (⟨h.1, h.2.symm⟩ : _ ∧ w' = W))
 have hFs := upS_size (shape q.text.toList)
 have HFG := hid (fun i c h hi => upS_get (shape q.text.toList) i c h hi)
 obtain ⟨F, hF⟩ : ∃ F, upS (shape q.text.toList) = F := ⟨_, rfl⟩
 rw [hF] at HF hFs HFG
 rw [hsl, hn] at hFs
 have f1 := ise F (by omega)
 have f2 : ((F.size : Int) != (n : Int)) = false := by simp [hFs]
 have f3 : F.size ≤ 9223372036854775807 := by omega
 have d0 : ((n : Int) + 1 == 0) = false := beq_eq_false_iff_ne.2 (by omega)
 have HFS := hid hFs
 have HR := hid hR
 have HN := hid hn
 have HSL := hid hsl
 have HA := hid hA
 have HB := hid hB
 have HPS := hid hps
 have HIH := hid ih
 have HOK := hid hok
 have HK := hid hk
 have HV := hid hv
 have hFle : n ≤ F.size := by omega
 clear hA hB hps ih hok hk hv hR hn hsl h0 hlq hq hFs hF c1
 obtain ⟨cs, hcs⟩ : ∃ cs, shape q.text.toList = cs := ⟨_, rfl⟩
 rw [hcs] at HR HSL HFG
 clear hcs
 go_enter Tryz.func105, Tryz.ntmps105
 go_wp2_with fail
 go_quiet ((go_at_call 110; exact Calls.quiet_of_same (HF.out _)))
 go_wp2_with fail
 go_loopw [47] (fun u wr => ∃ (i : Nat) (st : St), i ≤ n ∧ u = .int .i64 (i : Int) ∧ Bld wr (w.heap.size + 1) q.text st ∧ Below w.heap.size w wr ∧ w.heap.size + 2 ≤ wr.heap.size ∧ Hid (Tree.parts ar (cs.drop i) (qs.drop i) st = R) ∧ st.binds.length + st.kids.length ≤ i ∧ st.binds.length + Tree.wts (qs.drop i) ≤ Tree.wts qs) (fun u _ => n - (intOf u).toNat)
 case atStart =>
  refine ⟨0, St.none, Nat.zero_le _, rfl, ?_, below_drewN (((Below.refl _ _).alloc (Nat.le_refl _) _).alloc (by simp) _) _, by simp, by show _ = _; rw [List.drop_zero, List.drop_zero]; exact HR.out, by simp [St.none], by simp [St.none]⟩
  have hst := BldAt.start (w.alloc (.cells #[.string ByteArray.empty, .slice (some ⟨b, 0, none⟩) (n + 1) cap] 118)) q.text (w.heap.size + 1) (by simp)
  exact Bld.under ⟨_, _, _, _, _, _, _, hst⟩ (below_drewN (Below.refl _ _) _)
 case round =>
  obtain ⟨i, st, hi, rfl, hbld, hbel, hz, hparts, hlen2, hwts⟩ := hrel
  by_cases hlt : i < n
  ·obtain ⟨p, hp⟩ : ∃ p, qs[i]? = some p := ⟨_, List.getElem?_eq_getElem (by rw [HN.out]; exact hlt)⟩
   obtain ⟨c, hcc⟩ : ∃ c, cs[i]? = some c := ⟨_, List.getElem?_eq_getElem (by rw [HSL.out, HN.out]; exact hlt)⟩
   have hiF : i < F.size := by omega
   have hFc := HFG.out i c hcc hiF
   have hwd := wts_drop qs i p hp
   have kw : Kept w0 wr := HK.out.below hbel hw
   have hwr : w0.heap.size ≤ wr.heap.size := by omega
   have ca : wr.cell? ⟨b, 2 + i * 2, none⟩ = some (.string (A (i + 1)).a) := by
    have := kw.cell (HA.out (i + 1) (by omega)); rwa [show (i + 1) * 2 = 2 + i * 2 by omega] at this
   have cb : wr.cell? ⟨b, 2 + i * 2 + 1, none⟩ = some (.slice (A (i + 1)).p (A (i + 1)).l (A (i + 1)).c) := by
    have := kw.cell (HB.out (i + 1) (by omega)); rwa [show (i + 1) * 2 = 2 + i * 2 by omega] at this
   have hwp2 := wt_pos p
   have hpt : (q :: qs)[i + 1]? = some p := by simpa using hp
   have HC := hid (fun W (hb : Bld W (w.heap.size + 1) q.text st) (hk : Kept w0 W) (hs : w0.heap.size ≤ W.heap.size) (hv : SV W sp na sc ar) => by
    have := addPart_any (HPS.out (i + 1) p hpt) (by omega) (okp _ HOK.out (i + 1) p hpt) (HIH.out (i + 1) p hpt) (w.heap.size + 1) q.text st ar sp na sc W hb hk hs hv (by omega) (by omega) (by omega) c
    rw [← hFc] at this
    exact this)
   have hstep : Tree.parts ar (cs.drop i) (qs.drop i) st = match add1 ar c p st with
       | some st' => Tree.parts ar (cs.drop (i + 1)) (qs.drop (i + 1)) st'
       | none => none := by
    have e1 := List.getElem?_eq_some_iff.1 hp
    have e2 := List.getElem?_eq_some_iff.1 hcc
    rw [List.drop_eq_getElem_cons e1.1, List.drop_eq_getElem_cons e2.1, e1.2, e2.2, parts_cons]
    all_goals (cases add1 ar c p st <;> rfl)
   rw [hparts.out] at hstep
   have HB2 := hid (fun o => (hbld.under ((Below.refl wr.heap.size wr).alloc (Nat.le_refl _) o).drew))
   have HK2 := hid (fun o => kw.below ((Below.refl wr.heap.size wr).alloc (Nat.le_refl _) o).drew hwr)
   have HV2 := hid (fun o => (HV.out.kept (Kept.of_below hbel (Nat.le_refl _))).kept (Kept.of_below ((Below.refl wr.heap.size wr).alloc (Nat.le_refl _) o).drew (Nat.le_refl _)))
   have HBE := hid hbel
   cases hO : add1 ar c p st with
   | none =>
    rw [hO] at hstep HC
    have HRN := hid (show R = none from hstep)
    clear hstep hparts hbld hbel kw hp hcc hFc hpt hO
    go_wp2_with fail
    go_region_with (go_at_call 134; refine (HC.out _ (show Bld (wr.alloc _).drew _ _ _ from HB2.out _) (show Kept w0 (wr.alloc _).drew from HK2.out _) (show w0.heap.size ≤ (wr.alloc _).drew.heap.size by simp; omega) (show SV (wr.alloc _).drew _ _ _ _ from HV2.out _)).mono ?_; rintro e w2 hp2; obtain ⟨rfl, hb2⟩ := hp2.none; have HBL := hid hb2; clear hp2 hb2)
    all_goals
     go_wp2_with fail
     go_ret2
     rw [HRN.out]
     refine ⟨?_, rfl⟩
     exact (HBE.out.alloc (by omega) _).drew.trans (HBL.out.mono (by omega))
   | some st' =>
    rw [hO] at hstep HC
    have HRS := hid hstep.symm
    have hal := add1_len hO
    clear hstep hparts hbld hbel kw hp hcc hFc hpt hO
    go_wp2_with fail
    go_region_with (go_at_call 134; refine (HC.out _ (show Bld (wr.alloc _).drew _ _ _ from HB2.out _) (show Kept w0 (wr.alloc _).drew from HK2.out _) (show w0.heap.size ≤ (wr.alloc _).drew.heap.size by simp; omega) (show SV (wr.alloc _).drew _ _ _ _ from HV2.out _)).mono ?_; rintro e w2 hp2; obtain ⟨rfl, hb2, hbl2⟩ := hp2.some; have HBL := hid hb2; have HBN := hid hbl2; clear hp2 hb2 hbl2)
    all_goals
     go_wp2_with fail
     go_roundw
     case rel =>
      have hz2 := HBL.out.size
      simp at hz2
      exact ⟨i + 1, st', by omega, by go_num, HBN.out, (HBE.out.alloc (by omega) _).drew.trans (HBL.out.mono (by omega)), by omega, HRS.out, by omega, by omega⟩
     case measure => simp [intOf]; omega
  ·have hin : i = n := by omega
   have hRe : R = some st := by
    rw [← hparts.out, hin, List.drop_of_length_le (by rw [HSL.out, HN.out]; exact Nat.le_refl _), List.drop_of_length_le (by rw [HN.out]; exact Nat.le_refl _)]
    rfl
   have HRE := hid hRe
   have HBD := hid hbld
   have HBE := hid hbel
   clear hin hRe hparts hbld hbel
   go_wp2_with fail
   go_ret2
   rw [HRE.out]
   exact ⟨HBE.out, w.heap.size + 1, rfl, HBD.out.done (by omega)⟩
theorem termOfPhrase_any {w0 : World} {S : Nat → Prop} {t : Tree} {h : Hd} (ht : TIn w0 S t h) : t.wt ≤ 12000 → t.ok → TmAsk w0 t h := by
 induction ht with
 | atom s hne hm => intro _ hok; exact term_atom w0 s hne (by have := hok.1; omega)
 | node ps b cap A hp hl hc hS hA hB hps ih =>
  intro hwt hok ar sp na sc w hk hw hv hna
  obtain ⟨q, qs, rfl⟩ : ∃ q qs, ps = q :: qs := by cases ps with | nil => simp at hp | cons q qs => exact ⟨q, qs, rfl⟩
  rw [Tree.wt] at hwt hna
  rw [Tree.ok] at hok
  have hq := (hps 0 q rfl).text
  have hlen := wtl (q :: qs)
  simp only [List.length_cons] at hl hA hB hlen
  by_cases hno : shape q.text.toList = [] ∨ (shape q.text.toList).length ≠ qs.length
  ·exact term_no (n := qs.length) rfl hl hc (by omega) hq (by simpa using hA 0 (by omega)) ar sp na sc w hk hno
  ·have h0 : shape q.text.toList ≠ [] := fun e => hno (Or.inl e)
   have hsl : (shape q.text.toList).length = qs.length := by
    rcases Nat.decEq (shape q.text.toList).length qs.length with h | h
    ·exact absurd (Or.inr h) hno
    ·exact h
   refine term_go (S := S) (n := qs.length) rfl hl hc hwt hok hq hA hB hps (fun i p hp => ?_) ar sp na sc w hk hw hv hna h0 hsl
   exact ih i p hp (by have := wtp (q :: qs) i p hp; omega) (okp _ hok i p hp)
def readTm (s : ByteArray) : Option Tm := match parse s with
 | some t => if t.size ≤ 1500 then t.tm [] else none
 | none => none
theorem readTermWithin_any (s : ByteArray) (hs : s.size ≤ 400000000) (w : World) : Calls Tryz.prog 63 #[.string s, .slice none 0 0] w (TmPost (readTm s) w) := by
 have HC := hid (fun W => readPhrase_any s hs W)
 cases hp : parse s with
 | none =>
  have HP := hid hp
  have HR := hid (show readTm s = none by rw [readTm, hp])
  clear hp
  go_enter Tryz.func63, Tryz.ntmps63
  go_wp2_with (go_at_call 85; refine (HC.out _).mono ?_; rintro e w1 hp; rw [HP.out] at hp; obtain ⟨pa, pp, pl, pc, rfl, hpl, hb1⟩ := hp.none; clear hp)
  go_ret2
  rw [HR.out]
  exact ⟨hb1.alloc hb1.size _, rfl⟩
 | some t =>
  have hwt := pas hp
  have hsz := siz t
  have hsz2 : t.size ≤ 12000 := by omega
  have hok := hid (parse_ok hp)
  have HP := hid hp
  by_cases h15 : t.size ≤ 1500
  ·have HR := hid (show readTm s = t.tm [] by rw [readTm, hp]; simp only; rw [if_pos h15])
   have h15i : (t.size : Int) ≤ 1500 := by omega
   clear hp
   cases hty : t.tm [] with
   | none =>
    have HT := hid hty
    clear hty
    go_enter Tryz.func63, Tryz.ntmps63
    go_wp2_with (first | (go_at_call 105; have _ := hb2; refine (HE.out _ _ _ (((Kept.refl _).alloc (Nat.le_refl _) _).below hb2 (by simp)) (by have := hb2.size; simp at this; omega) (SV.nil _)).mono ?_; rintro e w3 hp; rw [HT.out] at hp; obtain ⟨rfl, hb3⟩ := hp.none; clear hp) | (go_at_call 104; refine (HD.out _ ((Kept.refl _).alloc (Nat.le_refl _) _) (by simp)).mono ?_; rintro e w2 ⟨rfl, hb2⟩; have kc := cel (blo (hea w1 (.cells #[.string pa, .slice pp pl pc] 118) _ rfl) hb2 (by simp))) | (go_at_call 85; refine (HC.out _).mono ?_; rintro e w1 hp; rw [HP.out] at hp; obtain ⟨pa, pp, pl, pc, rfl, hb1, ht⟩ := hp.some; clear hp; have HD := hid (fun W hk hs => atoms_any ht hsz2 W hk hs); have HE := hid (fun p c W hk hs hv => termOfPhrase_any ht hwt hok.out [] p 0 c W hk hs hv (by omega)); clear ht))
    go_ret2
    rw [HR.out, HT.out]
    have s1 := hb1.size
    have s2 := hb2.size
    simp at s2
    exact ⟨hb1.trans (((Below.refl _ _).alloc (by omega) _).trans ((hb2.mono (by simp; omega)).trans (hb3.mono (by omega)))), rfl⟩
   | some m =>
    have HT := hid hty
    clear hty
    go_enter Tryz.func63, Tryz.ntmps63
    go_wp2_with (first | (go_at_call 105; have _ := hb2; refine (HE.out _ _ _ (((Kept.refl _).alloc (Nat.le_refl _) _).below hb2 (by simp)) (by have := hb2.size; simp at this; omega) (SV.nil _)).mono ?_; rintro e w3 hp; rw [HT.out] at hp; obtain ⟨a, rfl, hb3, hn3⟩ := hp.some; have HN := hid hn3; clear hp hn3) | (go_at_call 104; refine (HD.out _ ((Kept.refl _).alloc (Nat.le_refl _) _) (by simp)).mono ?_; rintro e w2 ⟨rfl, hb2⟩; have kc := cel (blo (hea w1 (.cells #[.string pa, .slice pp pl pc] 118) _ rfl) hb2 (by simp))) | (go_at_call 85; refine (HC.out _).mono ?_; rintro e w1 hp; rw [HP.out] at hp; obtain ⟨pa, pp, pl, pc, rfl, hb1, ht⟩ := hp.some; clear hp; have HD := hid (fun W hk hs => atoms_any ht hsz2 W hk hs); have HE := hid (fun p c W hk hs hv => termOfPhrase_any ht hwt hok.out [] p 0 c W hk hs hv (by omega)); clear ht))
    go_ret2
    rw [HR.out, HT.out]
    have s1 := hb1.size
    have s2 := hb2.size
    simp at s2
    exact ⟨hb1.trans (((Below.refl _ _).alloc (by omega) _).trans ((hb2.mono (by simp; omega)).trans (hb3.mono (by omega)))), a, rfl, HN.out.keep (fun _ _ _ => rfl) (fun k hk _ => by omega)⟩
  ·have HR := hid (show readTm s = none by rw [readTm, hp]; simp only; rw [if_neg h15])
   have h15i : 1500 < (t.size : Int) := by omega
   clear hp
   go_enter Tryz.func63, Tryz.ntmps63
   go_wp2_with (first | (go_at_call 104; have _ := hb1; refine (HD.out _ ((Kept.refl _).alloc (Nat.le_refl _) _) (by simp)).mono ?_; rintro e w2 ⟨rfl, hb2⟩) | (go_at_call 85; refine (HC.out _).mono ?_; rintro e w1 hp; rw [HP.out] at hp; obtain ⟨pa, pp, pl, pc, rfl, hb1, ht⟩ := hp.some; clear hp; have HD := hid (fun W hk hs => atoms_any ht hsz2 W hk hs); clear ht))
   go_ret2
   rw [HR.out]
   have s1 := hb1.size
   exact ⟨hb1.trans (((Below.refl _ _).alloc (by omega) _).trans (hb2.mono (by simp; omega))), rfl⟩
theorem readTerm_any (s : ByteArray) (hs : s.size ≤ 400000000) (w : World) : Calls Tryz.prog 29 #[.string s] w (TmPost (readTm s) w) := by
 have HC := hid (fun W => readTermWithin_any s hs W)
 cases hr : readTm s with
 | none =>
  rw [hr] at HC
  clear hr
  go_enter Tryz.func29, Tryz.ntmps29
  go_wp2_with (go_at_call 63; refine (HC.out _).mono ?_; rintro e w1 hp; obtain ⟨rfl, hb1⟩ := hp.none; clear hp)
  go_ret2
  exact ⟨hb1, rfl⟩
 | some m =>
  rw [hr] at HC
  clear hr
  go_enter Tryz.func29, Tryz.ntmps29
  go_wp2_with (go_at_call 63; refine (HC.out _).mono ?_; rintro e w1 hp; obtain ⟨a, rfl, hb1, hn1⟩ := hp.some; have HN := hid hn1; clear hp hn1)
  go_ret2
  exact ⟨hb1, a, rfl, HN.out⟩
def srtS : Option Bool → ByteArray
 | some true => strV
 | some false => strC
 | none => ByteArray.empty
def sortOf (s : ByteArray) : ByteArray := srtS ((readTm s).map Tm.isVal)
theorem strV_l : strV.toList = [118, 97, 108, 117, 101] := by rw [Go.ByteArray.toList_eq]; rfl
theorem strC_l : strC.toList = [99, 111, 109, 112, 117, 116, 97, 116, 105, 111, 110] := by rw [Go.ByteArray.toList_eq]; rfl
theorem srtS_v (x : Option Bool) : ((srtS x).toList == [118, 97, 108, 117, 101]) = decide (x = some true) := by
 rcases x with _ | _ | _ <;> simp [srtS, strV_l, strC_l]
theorem srtS_c (x : Option Bool) : ((srtS x).toList == [99, 111, 109, 112, 117, 116, 97, 116, 105, 111, 110]) = decide (x = some false) := by
 rcases x with _ | _ | _ <;> simp [srtS, strV_l, strC_l]
theorem srtS_e (x : Option Bool) : (srtS x).toList.isEmpty = decide (x = none) := by
 rcases x with _ | _ | _ <;> simp [srtS, strV_l, strC_l]
theorem fitA (p : Tree) : (tyLim p).any Ty.isVal = ((p.kind.toList == [118, 97, 108, 117, 101]) && decide ((p.size : Int) ≤ 12)) := by
 rw [kind_ty, tyLim]
 by_cases h : p.size ≤ 12
 ·rw [if_pos h, decide_eq_true (show (p.size : Int) ≤ 12 by omega)]
  cases p.ty with
  | none => simp [kindOf]
  | some ty => cases hv : ty.isVal <;> simp [kindOf, Ty.kindS, hv, strV_l, strC_l]
 ·rw [if_neg h, decide_eq_false (show ¬ (p.size : Int) ≤ 12 by omega)]; simp
theorem fitC (p : Tree) : (tyLim p).any (!Ty.isVal ·) = ((p.kind.toList == [99, 111, 109, 112, 117, 116, 97, 116, 105, 111, 110]) && decide ((p.size : Int) ≤ 12)) := by
 rw [kind_ty, tyLim]
 by_cases h : p.size ≤ 12
 ·rw [if_pos h, decide_eq_true (show (p.size : Int) ≤ 12 by omega)]
  cases p.ty with
  | none => simp [kindOf]
  | some ty => cases hv : ty.isVal <;> simp [kindOf, Ty.kindS, hv, strV_l, strC_l]
 ·rw [if_neg h, decide_eq_false (show ¬ (p.size : Int) ≤ 12 by omega)]; simp
def fit1 (c : Sg) (p : Tree) : Bool := match c with
 | .X => nameB p.text.toList
 | .A => (tyLim p).any Ty.isVal
 | .C => (tyLim p).any (!Ty.isVal ·)
 | .V => decide (Tree.srt p = some true)
 | .M => decide (Tree.srt p = some false)
theorem fits_cons (c : Sg) (cs : List Sg) (p : Tree) (ps : List Tree) : Tree.fits (c :: cs) (p :: ps) = (fit1 c p && Tree.fits cs ps) := by
 cases c <;> rw [Tree.fits] <;> rfl
def SrtAsk (w0 : World) (p : Tree) (h : Hd) : Prop := ∀ (W : World), Kept w0 W → w0.heap.size ≤ W.heap.size →
 Calls Tryz.prog 55 #[.agg #[.string h.a, .slice h.p h.l h.c]] W fun e w' => e = .returned (.string (srtS p.srt)) ∧ Below W.heap.size W w'
theorem ret_bool' {a b : Bool} (h : a = b) : Ending.returned (.bool a) = Ending.returned (.bool b) := by rw [h]
theorem text_small {w : World} {S : Nat → Prop} {p : Tree} {h : Hd} (ht : TIn w S p h) (hok : p.ok) : p.text.size ≤ 400000000 := by
 cases ht with
 | atom s hne hm => have := hok.1; show s.size ≤ _; omega
 | node ps b cap A hp hl hc hS hA hB hps => show ByteArray.empty.size ≤ _; decide
theorem l2Fits_any {w0 : World} {S : Nat → Prop} {p : Tree} {h : Hd} (ht : TIn w0 S p h) (hwt : p.wt ≤ 12000) (hok : p.ok) (ih : SrtAsk w0 p h) (w : World) (hk : Kept w0 w) (hw : w0.heap.size ≤ w.heap.size) (c : Sg) :
    Calls Tryz.prog 96 #[.agg #[.string h.a, .slice h.p h.l h.c], .int .u8 (c.lo.toNat : Int)] w fun e w' => e = .returned (.bool (fit1 c p)) ∧ Below w.heap.size w w' := by
 have k1 : ∀ o, Kept w0 (w.alloc o) := fun o => hk.alloc hw o
 cases c with
 | V =>
  have HC := hid (fun o => ih (w.alloc o) (k1 o) (by simp; omega))
  clear ih hk k1 ht
  have HQ := hid (srtS_v p.srt)
  show Calls Tryz.prog 96 #[_, .int .u8 (118 : Int)] w _
  go_enter Tryz.func96, Tryz.ntmps96
  go_wp2_with (go_at_call 55; refine (HC.out _).mono ?_; rintro e w1 ⟨rfl, hb1⟩)
  go_ret
  exact ⟨ret_bool' HQ.out, ((Below.refl _ _).alloc (Nat.le_refl _) _).trans (hb1.mono (by simp))⟩
 | M =>
  have HC := hid (fun o => ih (w.alloc o) (k1 o) (by simp; omega))
  clear ih hk k1 ht
  have HQ := hid (srtS_c p.srt)
  show Calls Tryz.prog 96 #[_, .int .u8 (109 : Int)] w _
  go_enter Tryz.func96, Tryz.ntmps96
  go_wp2_with (go_at_call 55; refine (HC.out _).mono ?_; rintro e w1 ⟨rfl, hb1⟩)
  go_ret
  exact ⟨ret_bool' HQ.out, ((Below.refl _ _).alloc (Nat.le_refl _) _).trans (hb1.mono (by simp))⟩
 | X =>
  have hsm := text_small ht hok
  rw [ht.text]
  have HC := hid (fun W => l2Name_any p.text hsm W)
  clear ih hk k1 ht
  show Calls Tryz.prog 96 #[_, .int .u8 (120 : Int)] w _
  go_enter Tryz.func96, Tryz.ntmps96
  go_wp2_with (go_at_call 57; refine (HC.out _).mono ?_; rintro e w1 ⟨rfl, rfl⟩)
  go_ret
  exact ⟨rfl, (Below.refl _ _).alloc (Nat.le_refl _) _⟩
 | A =>
  have hsz := siz p
  have hsz2 : p.size ≤ 12000 := by omega
  have HC := hid (fun o => l1Kind_any ht hwt (w.alloc o) (k1 o) (by simp; omega))
  have HD := hid (fun W hk hs => l1Size_any ht hsz2 W hk hs)
  have HK := hid k1
  have HF := hid (fitA p)
  clear ih hk k1 ht
  show Calls Tryz.prog 96 #[_, .int .u8 (97 : Int)] w _
  cases e0 : p.kind.toList == [118, 97, 108, 117, 101] with
  | true =>
   have HE := hid e0
   go_enter Tryz.func96, Tryz.ntmps96
   go_wp2_with (first | (go_at_call 56; have _ := hb1; refine (HD.out _ ((HK.out _).below hb1 (by simp; omega)) (by have := hb1.size; simp at this; omega)).mono ?_; rintro e w2 ⟨rfl, hb2⟩) | (go_at_call 99; refine (HC.out _).mono ?_; rintro e w1 ⟨rfl, hb1⟩; have kc := cel (blo (hea w (.cells #[.string h.a, .slice h.p h.l h.c] 43) _ rfl) hb1 (by simp))))
   go_ret
   have s1 := hb1.size
   simp at s1
   exact ⟨ret_bool' (by show _ = (tyLim p).any Ty.isVal; rw [HF.out, HE.out, Bool.true_and]), ((Below.refl _ _).alloc (Nat.le_refl _) _).trans ((hb1.mono (by simp)).trans (hb2.mono (by omega)))⟩
  | false =>
   have HE := hid e0
   go_enter Tryz.func96, Tryz.ntmps96
   go_wp2_with (go_at_call 99; refine (HC.out _).mono ?_; rintro e w1 ⟨rfl, hb1⟩; have kc := cel (blo (hea w (.cells #[.string h.a, .slice h.p h.l h.c] 43) _ rfl) hb1 (by simp)))
   go_ret
   exact ⟨ret_bool' (by show _ = (tyLim p).any Ty.isVal; rw [HF.out, HE.out, Bool.false_and]), ((Below.refl _ _).alloc (Nat.le_refl _) _).trans (hb1.mono (by simp))⟩
 | C =>
  have hsz := siz p
  have hsz2 : p.size ≤ 12000 := by omega
  have HC := hid (fun o => l1Kind_any ht hwt (w.alloc o) (k1 o) (by simp; omega))
  have HD := hid (fun W hk hs => l1Size_any ht hsz2 W hk hs)
  have HK := hid k1
  have HF := hid (fitC p)
  clear ih hk k1 ht
  show Calls Tryz.prog 96 #[_, .int .u8 (99 : Int)] w _
  cases e0 : p.kind.toList == [99, 111, 109, 112, 117, 116, 97, 116, 105, 111, 110] with
  | true =>
   have HE := hid e0
   go_enter Tryz.func96, Tryz.ntmps96
   go_wp2_with (first | (go_at_call 56; have _ := hb1; refine (HD.out _ ((HK.out _).below hb1 (by simp; omega)) (by have := hb1.size; simp at this; omega)).mono ?_; rintro e w2 ⟨rfl, hb2⟩) | (go_at_call 99; refine (HC.out _).mono ?_; rintro e w1 ⟨rfl, hb1⟩; have kc := cel (blo (hea w (.cells #[.string h.a, .slice h.p h.l h.c] 43) _ rfl) hb1 (by simp))))
   go_ret
   have s1 := hb1.size
   simp at s1
   exact ⟨ret_bool' (by show _ = (tyLim p).any (!Ty.isVal ·); rw [HF.out, HE.out, Bool.true_and]), ((Below.refl _ _).alloc (Nat.le_refl _) _).trans ((hb1.mono (by simp)).trans (hb2.mono (by omega)))⟩
  | false =>
   have HE := hid e0
   go_enter Tryz.func96, Tryz.ntmps96
   go_wp2_with (go_at_call 99; refine (HC.out _).mono ?_; rintro e w1 ⟨rfl, hb1⟩; have kc := cel (blo (hea w (.cells #[.string h.a, .slice h.p h.l h.c] 43) _ rfl) hb1 (by simp)))
   go_ret
   exact ⟨ret_bool' (by show _ = (tyLim p).any (!Ty.isVal ·); rw [HF.out, HE.out, Bool.false_and]), ((Below.refl _ _).alloc (Nat.le_refl _) _).trans (hb1.mono (by simp))⟩
theorem loS_size (l : List Sg) : (loS l).size = l.length := by simp [loS, ByteArray.size]
theorem loS_get (l : List Sg) (i : Nat) (c : Sg) (h : l[i]? = some c) (hi : i < (loS l).size) : (loS l)[i] = c.lo := by
 have h1 := toList_get (loS l) i hi
 rw [Go.ByteArray.toList_eq] at h1
 simp [loS, h] at h1
 exact h1.symm
theorem srt_no {q : Tree} {qs : List Tree} (h : shape q.text.toList = [] ∨ (shape q.text.toList).length ≠ qs.length) : Tree.srt (.node (q :: qs)) = none := by
 rw [Tree.srt, if_pos h]
theorem srt_go {q : Tree} {qs : List Tree} (h0 : shape q.text.toList ≠ []) (h : (shape q.text.toList).length = qs.length) :
    Tree.srt (.node (q :: qs)) = if Tree.fits (shape q.text.toList) qs = true ∧ ¬ (q.text.toList = [115, 112, 108, 105, 116] ∧ (qs[1]?.map (·.text.toList)) = (qs[2]?.map (·.text.toList))) then some (isv q.text.toList) else none := by
 rw [Tree.srt, if_neg (fun hh => hh.elim h0 (fun e => e h))]
theorem srt_bad {q : Tree} {qs : List Tree} (h0 : shape q.text.toList ≠ []) (h : (shape q.text.toList).length = qs.length) (hf : Tree.fits (shape q.text.toList) qs = false) : Tree.srt (.node (q :: qs)) = none := by
 rw [srt_go h0 h, if_neg (fun hh => by rw [hf] at hh; cases hh.1)]
theorem srt_plain {q : Tree} {qs : List Tree} (h0 : shape q.text.toList ≠ []) (h : (shape q.text.toList).length = qs.length) (hf : Tree.fits (shape q.text.toList) qs = true) (hs : (q.text.toList == [115, 112, 108, 105, 116]) = false) : Tree.srt (.node (q :: qs)) = some (isv q.text.toList) := by
 rw [srt_go h0 h, if_pos ⟨hf, fun hh => by rw [hh.1] at hs; simp at hs⟩]
theorem srt_split {q : Tree} {qs : List Tree} (h0 : shape q.text.toList ≠ []) (h : (shape q.text.toList).length = qs.length) (hf : Tree.fits (shape q.text.toList) qs = true) (hs : q.text.toList = [115, 112, 108, 105, 116]) {x y : Tree} (hx : qs[1]? = some x) (hy : qs[2]? = some y) :
    Tree.srt (.node (q :: qs)) = if x.text.toList == y.text.toList then none else some false := by
 rw [srt_go h0 h, hx, hy]
 cases e : x.text.toList == y.text.toList with
 | true =>
  rw [if_neg (fun hh => hh.2 ⟨hs, by simpa using e⟩)]; rfl
 | false =>
  rw [if_pos ⟨hf, fun hh => by have := hh.2; simp at this; simp [this] at e⟩, hs]; rfl
theorem isVal_head {h : List UInt8} (h0 : shape h ≠ []) : isv h = (h == [112, 97, 105, 114] || h == [116, 104, 117, 110, 107]) := by
 have n1 : h ≠ [110, 97, 109, 101] := fun e => by subst e; exact h0 rfl
 have n2 : h ≠ [98, 105, 116] := fun e => by subst e; exact h0 rfl
 unfold isv
 by_cases e1 : h = [112, 97, 105, 114]
 ·subst e1; rfl
 ·by_cases e2 : h = [116, 104, 117, 110, 107]
  ·subst e2; rfl
  ·simp [n1, n2, e1, e2]
theorem srt_atom (w0 : World) (s : ByteArray) (hne : s.size ≠ 0) (hm : s.size ≤ 400000000) : SrtAsk w0 (.atom s) ⟨s, none, 0, 0⟩ := by
 intro w hk hw
 have he := ise s hne
 have HN := hid (fun W => l2Name_any s hm W)
 have HT := hid (show Tree.srt (.atom s) = if s.toList = [48] ∨ s.toList = [49] ∨ nameB s.toList = true then some true else none by rw [Tree.srt])
 clear hk hw
 cases e0 : s.toList == [48] with
 | true =>
  have HQ := hid (show Tree.srt (.atom s) = some true by rw [HT.out, if_pos (Or.inl (by simpa using e0))])
  go_enter Tryz.func55, Tryz.ntmps55
  go_wp2_with fail
  go_ret
  exact ⟨rer (by rw [HQ.out]; rfl), (Below.refl _ _).alloc (Nat.le_refl _) _⟩
 | false =>
  cases e1 : s.toList == [49] with
  | true =>
   have HQ := hid (show Tree.srt (.atom s) = some true by rw [HT.out, if_pos (Or.inr (Or.inl (by simpa using e1)))])
   go_enter Tryz.func55, Tryz.ntmps55
   go_wp2_with fail
   go_ret
   exact ⟨rer (by rw [HQ.out]; rfl), (Below.refl _ _).alloc (Nat.le_refl _) _⟩
  | false =>
   cases e2 : nameB s.toList with
   | true =>
    have HQ := hid (show Tree.srt (.atom s) = some true by rw [HT.out, if_pos (Or.inr (Or.inr e2))])
    have HE := hid e2
    clear e2
    go_enter Tryz.func55, Tryz.ntmps55
    go_wp2_with (go_at_call 57; refine (HN.out _).mono ?_; rintro e w1 ⟨rfl, rfl⟩; rw [HE.out])
    go_ret
    exact ⟨rer (by rw [HQ.out]; rfl), (Below.refl _ _).alloc (Nat.le_refl _) _⟩
   | false =>
    have HQ := hid (show Tree.srt (.atom s) = none by rw [HT.out, if_neg (fun h => by rcases h with h | h | h; (· simp [h] at e0); (· simp [h] at e1); (· rw [e2] at h; cases h))])
    have HE := hid e2
    clear e2
    go_enter Tryz.func55, Tryz.ntmps55
    go_wp2_with (go_at_call 57; refine (HN.out _).mono ?_; rintro e w1 ⟨rfl, rfl⟩; rw [HE.out])
    go_ret
    exact ⟨rer (by rw [HQ.out]; rfl), (Below.refl _ _).alloc (Nat.le_refl _) _⟩
theorem sort_no {w0 : World} {q : Tree} {qs : List Tree} {b cap n : Nat} (hn : qs.length = n) (hn2 : n ≤ 12000) (w : World) (hk : Kept w0 w)
    (hh : ∀ W, Kept w0 W → Calls Tryz.prog 94 #[.agg #[.string ByteArray.empty, .slice (some ⟨b, 0, none⟩) (n + 1) cap]] W fun e w' => e = .returned (.string q.text) ∧ Below W.heap.size W w')
    (hw : w0.heap.size ≤ w.heap.size)
    (hno : shape q.text.toList = [] ∨ (shape q.text.toList).length ≠ qs.length) :
    Calls Tryz.prog 55 #[.agg #[.string ByteArray.empty, .slice (some ⟨b, 0, none⟩) (n + 1) cap]] w fun e w' => e = .returned (.string (srtS (Tree.srt (.node (q :: qs))))) ∧ Below w.heap.size w w' := by
 rw [srt_no hno]
 have HH := hid (fun o => hh (w.alloc o) (hk.alloc hw o))
 have HF := hid (fun W => l2Shape_any q.text W)
 have hsz := loS_size (shape q.text.toList)
 obtain ⟨F, hF⟩ : ∃ F, loS (shape q.text.toList) = F := ⟨_, rfl⟩
 rw [hF] at HF hsz
 have hn3 : (n : Int) + 1 ≤ 12001 := by omega
 have f3 : F.size ≤ 4 := by
  have := shp q.text.toList
  have : (shape q.text.toList).length ≤ 4 := by
   rcases this with ⟨_, e⟩ | ⟨_, e⟩
   ·rw [e]; decide
   ·rcases e with e | e | e | e | e | e | e | e | e | e | e | e <;> (rw [e]; decide)
  omega
 clear hk hh hF hw
 by_cases he : F.size = 0
 ·have f1 := isEmpty_of F he
  clear hno hsz he
  go_enter Tryz.func55, Tryz.ntmps55
  go_wp2_with (first | (go_at_call 94; refine (HH.out _).mono ?_; rintro e w1 ⟨rfl, hb1⟩; have kc := cel (blo (hea w (.cells #[.string ByteArray.empty, .slice (some ⟨b, 0, none⟩) (n + 1) cap] 43) _ rfl) hb1 (by simp))) | (go_at_call 95; refine (HF.out _).mono ?_; rintro e w2 ⟨rfl, rfl⟩))
  go_ret
  exact ⟨rfl, ((Below.refl _ _).alloc (Nat.le_refl _) _).trans (hb1.mono (by simp))⟩
 ·have f1 := ise F he
  have f2 : ((n : Int) + 1 != (F.size : Int) + 1) = true := by
   refine bne_iff_ne.2 ?_
   rcases hno with h | h
   ·rw [h, List.length_nil] at hsz; omega
   ·omega
  clear hno hsz he
  go_enter Tryz.func55, Tryz.ntmps55
  go_wp2_with (first | (go_at_call 94; refine (HH.out _).mono ?_; rintro e w1 ⟨rfl, hb1⟩; have kc := cel (blo (hea w (.cells #[.string ByteArray.empty, .slice (some ⟨b, 0, none⟩) (n + 1) cap] 43) _ rfl) hb1 (by simp))) | (go_at_call 95; refine (HF.out _).mono ?_; rintro e w2 ⟨rfl, rfl⟩))
  go_ret
  exact ⟨rfl, ((Below.refl _ _).alloc (Nat.le_refl _) _).trans (hb1.mono (by simp))⟩
theorem sort_go {w0 : World} {S : Nat → Prop} {q : Tree} {qs : List Tree} {b cap n N : Nat} {A : Nat → Hd} (hn : qs.length = n) (hN : N = n + 1) (_hl : n + 1 ≤ cap) (_hc : cap ≤ maxLen) (hwt : 1 + Tree.wts (q :: qs) ≤ 12000) (hok : Tree.oks (q :: qs))
    (hA : ∀ i, i < n + 1 → w0.cell? ⟨b, i * 2, none⟩ = some (.string (A i).a)) (hB : ∀ i, i < n + 1 → w0.cell? ⟨b, i * 2 + 1, none⟩ = some (.slice (A i).p (A i).l (A i).c))
    (hps : ∀ i p, (q :: qs)[i]? = some p → TIn w0 S p (A i)) (ih : ∀ i p, (q :: qs)[i]? = some p → SrtAsk w0 p (A i))
    (w : World) (hk : Kept w0 w) (hw : w0.heap.size ≤ w.heap.size)
    (hh : ∀ W, Kept w0 W → Calls Tryz.prog 94 #[.agg #[.string ByteArray.empty, .slice (some ⟨b, 0, none⟩) N cap]] W fun e w' => e = .returned (.string q.text) ∧ Below W.heap.size W w')
    (h0 : shape q.text.toList ≠ []) (hsl : (shape q.text.toList).length = qs.length) :
    Calls Tryz.prog 55 #[.agg #[.string ByteArray.empty, .slice (some ⟨b, 0, none⟩) N cap]] w fun e w' => e = .returned (.string (srtS (Tree.srt (.node (q :: qs))))) ∧ Below w.heap.size w w' := by
 have HBAD := hid (fun hf => srt_bad h0 hsl hf)
 have HPLAIN := hid (fun hf hs => srt_plain h0 hsl hf hs)
 have HSPLIT := hid (fun hf hs x y hx hy => srt_split h0 hsl hf hs (x := x) (y := y) hx hy)
 have HVAL := hid (isVal_head h0)
 obtain ⟨R, hR⟩ : ∃ R, Tree.srt (.node (q :: qs)) = R := ⟨_, rfl⟩
 rw [hR] at HBAD HPLAIN HSPLIT ⊢
 have hlen := wtl (q :: qs)
 have hlq : (q :: qs).length = n + 1 := by simp [hn]
 rw [hlq] at hlen
 unfold maxLen at _hc
 have hn4 : n ≤ 4 := by
  rw [← hn, ← hsl]
  rcases shp q.text.toList with ⟨_, e⟩ | ⟨_, e⟩
  ·rw [e]; decide
  ·rcases e with e | e | e | e | e | e | e | e | e | e | e | e <;> (rw [e]; decide)
 have HN4 := hid (show q.text.toList = [115, 112, 108, 105, 116] → n = 4 by
  intro e; rw [← hn, ← hsl, e]; rfl)
 have hn0 : 1 ≤ n := by
  rw [← hn, ← hsl]
  cases hs : shape q.text.toList with
  | nil => exact absurd hs h0
  | cons c l => simp
 have HH := hid (fun o => hh (w.alloc o) (hk.alloc hw o))
 have HF := hid (fun W => l2Shape_any q.text W)
 have hFs := loS_size (shape q.text.toList)
 have HFG := hid (fun i c h hi => loS_get (shape q.text.toList) i c h hi)
 obtain ⟨F, hF⟩ : ∃ F, loS (shape q.text.toList) = F := ⟨_, rfl⟩
 rw [hF] at HF hFs HFG
 rw [hsl, hn] at hFs
 have f1 := ise F (by omega)
 have f2 : ((N : Int) != (F.size : Int) + 1) = false := by simp [hFs, hN]
 have f3 : F.size ≤ 4 := by omega
 have hN1 : n < N := by omega
 have hN2 : N ≤ 5 := by omega
 clear hN
 have HN := hid hn
 have HSL := hid hsl
 have HA := hid hA
 have HB := hid hB
 have HPS := hid hps
 have HIH := hid ih
 have HOK := hid hok
 have HK := hid hk
 have hFle : n ≤ F.size := by omega
 have hFle2 : F.size ≤ n := by omega
 clear hA hB hps ih hok hk hR hn hsl h0 hlq hFs hF hh
 obtain ⟨cs, hcs⟩ : ∃ cs, shape q.text.toList = cs := ⟨_, rfl⟩
 rw [hcs] at HSL HFG HBAD HPLAIN HSPLIT
 clear hcs
 go_enter Tryz.func55, Tryz.ntmps55
 go_wp2_with (first | (go_at_call 94; refine (HH.out _).mono ?_; rintro e w1 ⟨rfl, hb1⟩; have kc := cel (blo (hea w (.cells #[.string ByteArray.empty, .slice (some ⟨b, 0, none⟩) N cap] 43) _ rfl) hb1 (by simp))) | (go_at_call 95; refine (HF.out _).mono ?_; rintro e w2 ⟨rfl, rfl⟩))
 go_loopw [5] (fun u wr => ∃ i : Nat, i ≤ n ∧ u = .int .i64 (i : Int) ∧ Below (w.heap.size + 1) (w.alloc (.cells #[.string ByteArray.empty, .slice (some ⟨b, 0, none⟩) N cap] 43)) wr ∧ Hid (Tree.fits cs qs = Tree.fits (cs.drop i) (qs.drop i))) (fun u _ => n - (intOf u).toNat)
 case atStart =>
  exact ⟨0, Nat.zero_le _, rfl, hb1.mono (by simp), by show _ = _; rw [List.drop_zero, List.drop_zero]⟩
 case round =>
  obtain ⟨i, hi, rfl, hbel, hfit⟩ := hrel
  have hz := hbel.size
  simp at hz
  have kc2 := cel (blo (hea w (.cells #[.string ByteArray.empty, .slice (some ⟨b, 0, none⟩) N cap] 43) w.heap.size rfl) hbel (by omega))
  have kw : Kept w0 wr := (HK.out.alloc hw _).below hbel (by omega)
  have hwr : w0.heap.size ≤ wr.heap.size := by omega
  by_cases hlt : i < n
  ·obtain ⟨p, hp⟩ : ∃ p, qs[i]? = some p := ⟨_, List.getElem?_eq_getElem (by rw [HN.out]; exact hlt)⟩
   obtain ⟨c, hcc⟩ : ∃ c, cs[i]? = some c := ⟨_, List.getElem?_eq_getElem (by rw [HSL.out, HN.out]; exact hlt)⟩
   have hiF : i < F.size := by omega
   have d2 : i + 1 < N := by omega
   have d3 : (i : Int) < (F.size : Int) := by omega
   have dA : (0 : Int) ≤ (i : Int) + 1 := by omega
   have dB : (i : Int) + 1 < (N : Int) := by omega
   have dF : IntKind.i64.wrap ((i : Int) + 1) = (i : Int) + 1 := (IntWalk.i64_left _).trans (IntWalk.wrap64_in ((i : Int) + 1) (by omega))
   have hFc := HFG.out i c hcc hiF
   have ca := kw.cell (HA.out (i + 1) (by omega))
   have cb := kw.cell (HB.out (i + 1) (by omega))
   have hpt : (q :: qs)[i + 1]? = some p := by simpa using hp
   have hwp := wtp (q :: qs) (i + 1) p hpt
   have HC := hid (fun W (hk : Kept w0 W) (hs : w0.heap.size ≤ W.heap.size) => by
    have := l2Fits_any (HPS.out (i + 1) p hpt) (by omega) (okp _ HOK.out (i + 1) p hpt) (HIH.out (i + 1) p hpt) W hk hs c
    rw [← hFc] at this
    exact this)
   have hstep : Tree.fits cs qs = (fit1 c p && Tree.fits (cs.drop (i + 1)) (qs.drop (i + 1))) := by
    have e1 := List.getElem?_eq_some_iff.1 hp
    have e2 := List.getElem?_eq_some_iff.1 hcc
    rw [hfit.out, List.drop_eq_getElem_cons e1.1, List.drop_eq_getElem_cons e2.1, e1.2, e2.2, fits_cons]
   have KW := hid (show Kept w0 wr.drew from kw.below (Below.refl wr.heap.size wr).drew hwr)
   obtain ⟨B, hO⟩ : ∃ B, fit1 c p = B := ⟨_, rfl⟩
   rw [hO] at hstep HC
   have HRN := hid (show B = false → R = none from fun e => HBAD.out (by rw [hstep, e]; rfl))
   have HRS := hid (show B = true → Tree.fits cs qs = Tree.fits (cs.drop (i + 1)) (qs.drop (i + 1)) from fun e => by rw [hstep, e, Bool.true_and])
   clear hstep hfit kw hp hcc hFc hpt hO HBAD HPLAIN HSPLIT HVAL HN4 HPS HIH HOK HA HB HFG HK HH HF hwp
   go_wp2_with fail
   go_region_with (go_at_call 96; refine (HC.out _ (show Kept w0 wr.drew from KW.out) (show w0.heap.size ≤ wr.drew.heap.size from hwr)).mono ?_; rintro e w3 ⟨rfl, hb3⟩)
   all_goals
    cases B with
    | false =>
     go_wp2_with fail
     go_ret
     refine ⟨rer (by rw [HRN.out (by trivial)]; rfl), ?_⟩
     exact ((Below.refl _ _).alloc (Nat.le_refl _) _).trans ((hbel.mono (by omega)).trans ((Below.refl _ wr).drew.trans (hb3.mono (show w.heap.size ≤ wr.heap.size by omega))))
    | true =>
     go_wp2_with fail
     go_roundw
     case rel =>
      exact ⟨i + 1, by omega, by go_num, hbel.trans ((Below.refl _ wr).drew.trans (hb3.mono (show w.heap.size + 1 ≤ wr.heap.size by omega))), by show _ = _; exact HRS.out (by trivial)⟩
     case measure => simp [intOf]; omega
  ·have hin : i = n := by omega
   have hft : Tree.fits cs qs = true := by
    rw [hfit.out, hin, List.drop_of_length_le (by rw [HSL.out, HN.out]; exact Nat.le_refl _), List.drop_of_length_le (by rw [HN.out]; exact Nat.le_refl _)]
    rfl
   have HFT := hid hft
   have HBE := hid (((Below.refl w.heap.size w).alloc (Nat.le_refl _) _).trans (hbel.mono (by omega)))
   cases e1 : q.text.toList == [115, 112, 108, 105, 116] with
   | true =>
    have hs : q.text.toList = [115, 112, 108, 105, 116] := by simpa using e1
    have hn4' := HN4.out hs
    obtain ⟨x, hx⟩ : ∃ x, qs[1]? = some x := ⟨_, List.getElem?_eq_getElem (by rw [HN.out]; omega)⟩
    obtain ⟨y, hy⟩ : ∃ y, qs[2]? = some y := ⟨_, List.getElem?_eq_getElem (by rw [HN.out]; omega)⟩
    have hRR := HSPLIT.out hft hs x y hx hy
    have tx := (HPS.out 2 x (by simpa using hx)).text
    have ty := (HPS.out 3 y (by simpa using hy)).text
    have ca : wr.cell? ⟨b, 4, none⟩ = some (.string x.text) := by have := kw.cell (HA.out 2 (by omega)); rw [tx] at this; simpa using this
    have cb : wr.cell? ⟨b, 6, none⟩ = some (.string y.text) := by have := kw.cell (HA.out 3 (by omega)); rw [ty] at this; simpa using this
    have d2 : (2 : Int) < (N : Int) := by omega
    have d3 : (3 : Int) < (N : Int) := by omega
    cases e2 : x.text.toList == y.text.toList with
    | true =>
     rw [e2] at hRR
     have HRR := hid (show R = none from hRR)
     clear hRR hin hft hfit hbel kw hx hy tx ty hs
     go_wp2_with fail
     go_region
     all_goals
      go_wp2_with fail
      go_ret
      exact ⟨rer (by rw [HRR.out]; rfl), HBE.out.drew⟩
    | false =>
     rw [e2] at hRR
     have HRR := hid (show R = some false from hRR)
     have e3 : (q.text.toList == [112, 97, 105, 114]) = false := by rw [hs]; rfl
     have e4 : (q.text.toList == [116, 104, 117, 110, 107]) = false := by rw [hs]; rfl
     clear hRR hin hft hfit hbel kw hx hy tx ty hs
     go_wp2_with fail
     go_region
     all_goals
      go_wp2_with fail
      go_ret
      exact ⟨rer (by rw [HRR.out]; rfl), HBE.out.drew⟩
   | false =>
    have hRR := HPLAIN.out hft e1
    rw [HVAL.out] at hRR
    cases e3 : q.text.toList == [112, 97, 105, 114] with
    | true =>
     rw [e3, Bool.true_or] at hRR
     have HRR := hid hRR
     clear hRR hin hft hfit hbel kw
     go_wp2_with fail
     go_region
     all_goals
      go_wp2_with fail
      go_ret
      exact ⟨rer (by rw [HRR.out]; rfl), HBE.out.drew⟩
    | false =>
     cases e4 : q.text.toList == [116, 104, 117, 110, 107] with
     | true =>
      rw [e3, e4, Bool.or_true] at hRR
      have HRR := hid hRR
      clear hRR hin hft hfit hbel kw
      go_wp2_with fail
      go_region
      all_goals
       go_wp2_with fail
       go_ret
       exact ⟨rer (by rw [HRR.out]; rfl), HBE.out.drew⟩
     | false =>
      rw [e3, e4, Bool.or_false] at hRR
      have HRR := hid hRR
      clear hRR hin hft hfit hbel kw
      go_wp2_with fail
      go_region
      all_goals
       go_wp2_with fail
       go_ret
       exact ⟨rer (by rw [HRR.out]; rfl), HBE.out.drew⟩
theorem l2Sort_any {w0 : World} {S : Nat → Prop} {t : Tree} {h : Hd} (ht : TIn w0 S t h) : t.wt ≤ 12000 → t.ok → SrtAsk w0 t h := by
 have hh := fun (w : World) (hk : Kept w0 w) => l1Head_any ht w hk
 induction ht with
 | atom s hne hm => intro _ hok; exact srt_atom w0 s hne (by have := hok.1; omega)
 | node ps b cap A hp hl hc hS hA hB hps ih =>
  intro hwt hok w hk hw
  obtain ⟨q, qs, rfl⟩ : ∃ q qs, ps = q :: qs := by cases ps with | nil => simp at hp | cons q qs => exact ⟨q, qs, rfl⟩
  rw [Tree.wt] at hwt
  rw [Tree.ok] at hok
  have hlen := wtl (q :: qs)
  simp only [List.length_cons] at hl hA hB hlen
  by_cases hno : shape q.text.toList = [] ∨ (shape q.text.toList).length ≠ qs.length
  ·exact sort_no (n := qs.length) rfl (by omega) w hk hh hw hno
  ·have h0 : shape q.text.toList ≠ [] := fun e => hno (Or.inl e)
   have hsl : (shape q.text.toList).length = qs.length := by
    rcases Nat.decEq (shape q.text.toList).length qs.length with h | h
    ·exact absurd (Or.inr h) hno
    ·exact h
   refine sort_go (S := S) (n := qs.length) rfl rfl hl hc hwt hok hA hB hps (fun i p hp => ?_) w hk hw hh h0 hsl
   exact ih i p hp (fun w hk => l1Head_any (hps i p hp) w hk) (by have := wtp (q :: qs) i p hp; omega) (okp _ hok i p hp)
theorem tmsizes_snoc (ks : List Tm) (i : Nat) (k : Tm) (h : ks[i]? = some k) : Tm.sizes (ks.take (i + 1)) = Tm.sizes (ks.take i) + k.size := by
 rw [List.take_add_one, h, Option.toList_some, tms, Tm.sizes, Tm.sizes]; omega
theorem tmsizes_take (ks : List Tm) (i : Nat) : Tm.sizes (ks.take i) ≤ Tm.sizes ks := by
 have h := tms (ks.take i) (ks.drop i)
 rw [List.take_append_drop] at h; omega
theorem tm_size_pos : ∀ m : Tm, 1 ≤ m.size
 | .mk _ _ _ _ _ _ => by rw [Tm.size]; omega
theorem tmsizes_length (ks : List Tm) : ks.length ≤ Tm.sizes ks := by
 induction ks with
 | nil => simp
 | cons k ks ih => have := tm_size_pos k; simp only [List.length_cons, Tm.sizes]; omega
theorem rea {s : ByteArray} {m : Tm} (h : readTm s = some m) : ∃ t, parse s = some t ∧ t.tm [] = some m ∧ t.size ≤ 1500 ∧ m.size ≤ 1500 := by
 unfold readTm at h
 cases hp : parse s with
 | none => rw [hp] at h; simp at h
 | some t =>
  rw [hp] at h; simp only at h
  split at h
  ·rename_i hc; exact ⟨t, rfl, h, hc, by rw [← tm_size t [] m h]; exact hc⟩
  ·simp at h
theorem wf_node {q : Tree} {qs : List Tree} (h : Tree.srt (.node (q :: qs)) ≠ none) : shape q.text.toList ≠ [] ∧ (shape q.text.toList).length = qs.length ∧ Tree.fits (shape q.text.toList) qs = true := by
 by_cases hno : shape q.text.toList = [] ∨ (shape q.text.toList).length ≠ qs.length
 ·exact absurd (srt_no hno) h
 ·have h0 : shape q.text.toList ≠ [] := fun e => hno (Or.inl e)
  have hsl : (shape q.text.toList).length = qs.length := by
   rcases Nat.decEq (shape q.text.toList).length qs.length with h | h
   ·exact absurd (Or.inr h) hno
   ·exact h
  refine ⟨h0, hsl, ?_⟩
  cases hf : Tree.fits (shape q.text.toList) qs with
  | true => rfl
  | false => exact absurd (srt_bad h0 hsl hf) h
theorem fits_get : ∀ (cs : List Sg) (ps : List Tree) (i : Nat) (c : Sg) (p : Tree), Tree.fits cs ps = true → cs[i]? = some c → ps[i]? = some p → fit1 c p = true
 | [], _, i, c, p, _, h, _ => by simp at h
 | _ :: _, [], i, c, p, _, _, h => by simp at h
 | d :: cs, q :: ps, i, c, p, hf, h1, h2 => by
  rw [fits_cons, Bool.and_eq_true] at hf
  cases i with
  | zero => simp at h1 h2; subst h1; subst h2; exact hf.1
  | succ i => exact fits_get cs ps i c p hf.2 (by simpa using h1) (by simpa using h2)
theorem fit1_wf {c : Sg} {p : Tree} (h : fit1 c p = true) (hc : c.isK = true) : p.srt ≠ none := by
 cases c with
 | X => cases hc
 | A => cases hc
 | C => cases hc
 | V => unfold fit1 at h; simp at h; rw [h]; simp
 | M => unfold fit1 at h; simp at h; rw [h]; simp
def headL : List (List UInt8) := [[112, 97, 105, 114], [116, 104, 117, 110, 107], [102, 115, 116], [115, 110, 100], [114, 101, 116, 117, 114, 110], [102, 111, 114, 99, 101], [116, 111], [108, 97, 109], [97, 112, 112], [105, 102], [115, 112, 108, 105, 116], [98, 111, 116, 104], [116, 114, 121], [103, 101, 116], [112, 117, 116], [102, 97, 105, 108]]
theorem heads_mem {h : List UInt8} (hs : shape h ≠ []) : h ∈ headL := by
 refine Classical.byContradiction fun hn => hs ?_
 simp only [headL, List.mem_cons, List.mem_nil_iff, or_false, not_or] at hn
 simp [shape, hn]
end Go.Proofs.YtfogjomebcponaaGreatDoor
