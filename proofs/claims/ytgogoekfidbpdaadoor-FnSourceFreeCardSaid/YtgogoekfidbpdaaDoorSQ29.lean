/- Merged: SdT, SdS. -/
import Derived.Test.YtgogoekfidbpdaaDoorSQ15
import Derived.Test.YtgogoekfidbpdaaDoorSQ0
import Derived.Test.YtgogoekfidbpdaaDoorSQSDrwSc
namespace Go.Proofs.YtgogoekfidbpdaaDoor
open Go.RowKit

/-- A tree that is answered, and whether it is small. -/
def TyTree (t : Tree) (w : World) (e : Ending) (w' : World) : Prop :=
  ∃ (a : ByteArray) (p : Option Addr) (l c : Nat) (k : Bool), e = .returned (.tuple #[.agg #[.string a, .slice p l c], .bool k]) ∧ TIn w' (fun b => w.heap.size ≤ b) t ⟨a, p, l, c⟩ ∧ Below w.heap.size w w'
theorem tree_sty : ∀ s : STy, s.tree.sty = some s
  | .bit => by rw [STy.tree, Tree.sty, if_pos (by rw [sBit, Go.ByteArray.toList_eq])]
  | .fn a b => by
    rw [STy.tree, sty_three (tree_sty a) (tree_sty b)]
    rw [if_pos (by rw [Tree.text, sFn, Go.ByteArray.toList_eq])]
  | .pair a b => by
    rw [STy.tree, sty_three (tree_sty a) (tree_sty b)]
    rw [if_neg (by rw [Tree.text, sPr, Go.ByteArray.toList_eq]; decide), if_pos (by rw [Tree.text, sPr, Go.ByteArray.toList_eq])]
theorem tree_wkS : ∀ s : STy, s.tree.wk
  | .bit => ⟨by decide, by decide⟩
  | .fn a b => ⟨by simp, ⟨⟨by decide, by decide⟩, tree_wkS a, tree_wkS b, trivial⟩⟩
  | .pair a b => ⟨by simp, ⟨⟨by decide, by decide⟩, tree_wkS a, tree_wkS b, trivial⟩⟩
theorem tree_dpS : ∀ s : STy, s.tree.dp ≤ s.n ∧ s.tree.write.length ≤ 5 * s.n ∧ s.n ≤ s.tree.write.length
  | .bit => ⟨by decide, by decide, by decide⟩
  | .fn a b => by
    obtain ⟨h1, h2, h3⟩ := tree_dpS a
    obtain ⟨k1, k2, k3⟩ := tree_dpS b
    have e : (STy.fn a b).tree.write.length = a.tree.write.length + b.tree.write.length + 5 := by simp [STy.tree, Tree.write, Tree.writes, sFn]; omega
    have d : (STy.fn a b).tree.dp = 1 + max 1 (max a.tree.dp (max b.tree.dp 0)) := by rw [STy.tree, Tree.dp, Tree.dps, Tree.dps, Tree.dps, Tree.dps, Tree.dp] <;> rfl
    have a1 := a.n_pos
    have b1 := b.n_pos
    rw [e, d, STy.n]
    omega
  | .pair a b => by
    obtain ⟨h1, h2, h3⟩ := tree_dpS a
    obtain ⟨k1, k2, k3⟩ := tree_dpS b
    have e : (STy.pair a b).tree.write.length = a.tree.write.length + b.tree.write.length + 5 := by simp [STy.tree, Tree.write, Tree.writes, sPr]; omega
    have d : (STy.pair a b).tree.dp = 1 + max 1 (max a.tree.dp (max b.tree.dp 0)) := by rw [STy.tree, Tree.dp, Tree.dps, Tree.dps, Tree.dps, Tree.dps, Tree.dp] <;> rfl
    have a1 := a.n_pos
    have b1 := b.n_pos
    rw [e, d, STy.n]
    omega
theorem parse_sty (s : STy) (h : s.tree.txt.size ≤ 100) : parse s.tree.txt = some s.tree := by
  have hz : s.tree.txt.size = s.tree.write.length := txt_size _
  obtain ⟨h1, h2, h3⟩ := tree_dpS s
  exact parse_back rfl (tree_wkS s) (by omega) (by omega)

set_option maxRecDepth 100000 in
set_option maxHeartbeats 2000000 in
theorem l7Typed_tree (s : ByteArray) (hs : s.size ≤ 400000000) (w : World) (t : Tree) (hp : parse s = some t) (hk : t.sty.isSome = true) : Calls Tryd.prog 19 #[.string s] w (TyTree t w) := by
  have HC := hid (fun W => l1Parse_any s hs W)
  have HP := hid hp
  have hwt := parse_wt hp
  have hsz := size_le_wt t
  clear hp
  go_enter Tryd.func19, Tryd.ntmps19
  go_wp2_with (go_at_call 34; refine (HC.out _).mono ?_; rintro e w1 hp; rw [HP.out] at hp; obtain ⟨pa, pp, pl, pc, rfl, hb1, ht⟩ := hp.some; clear hp)
  have q0 := block_below (heap_new w (.cells #[.string ByteArray.empty, .slice none 0 0] 44) _ rfl) hb1 (by simp)
  have hlt := lt_of_block q0
  have e0 : ByteArray.empty = ({ data := #[] } : ByteArray) := rfl
  rw [e0] at q0
  clear e0
  obtain ⟨W, hW⟩ : ∃ W, W = w1.alloc (.cells #[.string pa, .slice pp pl pc] 44) := ⟨_, rfl⟩
  have kW : Kept w1 W := hW ▸ (Kept.refl w1).alloc (Nat.le_refl _) _
  have sW : w1.heap.size + 1 = W.heap.size := by rw [hW]; simp
  have c0 := cells_of_pair (pair_alloc q0 (.cells #[.string pa, .slice pp pl pc] 44))
  have c1 := cells_of_pair (heap_new w1 (.cells #[.string pa, .slice pp pl pc] 44) _ rfl)
  rw [← hW] at c0 c1 ⊢
  have SW := hid sW
  have HRES := hid (hW ▸ pair_alloc q0 (.cells #[.string pa, .slice pp pl pc] 44))
  have ht2 : TIn w1 (fun b => w.heap.size + 1 ≤ b) t ⟨pa, pp, pl, pc⟩ := ht.keep (fun _ _ _ => rfl) (fun k hk _ => by simpa using hk)
  have hsz2 : t.size ≤ 12000 := by omega
  have HC1 := hid (fun Wx (hb : But w.heap.size W Wx) => hk ▸ l7Source_any (ht2.keep (w' := Wx) (S' := fun _ => True) (fun k hk hl => (hb.block k (by omega) (by omega)).trans (kW k hl)) (fun _ _ _ => trivial)) Wx (Kept.refl _) (Nat.le_refl _))
  have HC2 := hid (fun Wx (hb : But w.heap.size W Wx) => l1Size_any (ht2.keep (w' := Wx) (S' := fun _ => True) (fun k hk hl => (hb.block k (by omega) (by omega)).trans (kW k hl)) (fun _ _ _ => trivial)) hsz2 Wx (Kept.refl _) (Nat.le_refl _))
  have HWE := hid hW
  have HB1 := hid hb1
  have HT := hid ht
  have HK := hid hk
  clear hW sW kW hb1 q0 ht ht2
  have hl1 : w1.heap.size < W.heap.size := by have := SW.out; omega
  have hl0 : w.heap.size < W.heap.size := by omega
  go_region_with (first | (go_at_call 42; refine (HC1.out _ ?_).mono ?_; exact But.start HRES.out; rintro e w2 ⟨rfl, hb2⟩; have hbW := Below.thenH (Below.refl _ W).drew hb2; have kk := keepH c1 c0 hl1 hl0 hbW) | (go_at_call 36; refine (HC2.out _ ?_).mono ?_; exact But.call (But.start HRES.out) hl0 hb2; rintro e w3 ⟨rfl, hb3⟩; have hbW2 := Below.thenH hbW hb3; have kk2 := keepH c1 c0 hl1 hl0 hbW2))
  all_goals
    go_wp2_with fail
    refine bodyPost_ret (v := .tuple #[.agg #[.string pa, .slice pp pl pc], .bool (decide ((t.size : Int) ≤ 12))]) (by simp [results, Tryd.results19, go_sem, kk2.2.2.1, kk2.2.2.2.1]) rfl ?_
    go_light
    have hcl := tree_close HB1.out HT.out (HWE.out ▸ hbW2) (.string pa) (.slice pp pl pc)
    exact ⟨_, _, _, _, _, rfl, hcl.1, hcl.2⟩

theorem l7Typed_sty (s : STy) (h : s.tree.txt.size ≤ 100) (w : World) : Calls Tryd.prog 19 #[.string s.tree.txt] w (TyTree s.tree w) :=
  l7Typed_tree s.tree.txt (by omega) w s.tree (parse_sty s h) (by rw [tree_sty]; rfl)
end Go.Proofs.YtgogoekfidbpdaaDoor

namespace Go.Proofs.YtgogoekfidbpdaaDoor
open Go.RowKit

set_option maxRecDepth 100000 in
set_option maxHeartbeats 2000000 in
/-- A text that is drawn from a list is one of them. -/
theorem rof_mem {w : World} {b q : Nat} (hr : Rd w b q) (hq : q ≤ 1099511627776) (g n c : Nat) (l : List ByteArray) (hl : SV w (some ⟨g, 0, none⟩) n c l) (hn : 1 ≤ n) (hn2 : n ≤ 1000) (hg : g ≠ b) :
    Calls Tryd.prog 25 #[.pointer (some ⟨b, 0, none⟩), .slice (some ⟨g, 0, none⟩) n c] w fun e w' => ∃ s ∈ l, e = .returned (.string s) ∧ Rd w' b (q + 1) ∧ Px b w w' := by
  have HP := hid (pick_any hr hq (n : Int) (by omega))
  have HL := hid hl
  clear hr hl
  go_enter Tryd.func25, Tryd.ntmps25
  go_wp2_with fail
  go_at_call 21
  refine HP.out.mono ?_
  rintro e w1 ⟨x, rfl, hx0, hx1, _, hr1, hp1⟩
  obtain ⟨k, rfl⟩ := Int.eq_ofNat_of_zero_le hx0
  have hk : k < n := by have := hx1 (by omega); omega
  obtain ⟨s, hs⟩ : ∃ s, l[k]? = some s := ⟨_, List.getElem?_eq_getElem (by rw [HL.out.1]; exact hk)⟩
  obtain ⟨g2, hg2, hcell⟩ := HL.out.2.2 k s hs
  obtain rfl : g = g2 := by simpa using hg2
  have hc1 := hp1.cell (a := ⟨g, k, none⟩) hg hcell
  have HS := hid (List.mem_of_getElem? hs)
  have HR := hid hr1
  have HX := hid hp1
  clear hr1 hp1 hcell hg2 hs hx0 hx1
  go_wp2_with fail
  go_ret
  exact ⟨s, HS.out, rfl, HR.out, HX.out⟩
/-- A source type that is drawn. -/
def KDrawn (b q S : Nat) (w : World) (e : Ending) (w' : World) : Prop := ∃ K : STy, e = .returned (.string K.tree.txt) ∧ K.tree.txt.size ≤ S ∧ Rd w' b q ∧ Px b w w'
def kcost : Nat → Nat
  | 0 => 0
  | d + 1 => 2 * kcost d + 2
def ksize : Nat → Nat
  | 0 => 1
  | d + 1 => 2 * ksize d + 5
theorem fn_txt (a c : STy) : (STy.fn a c).tree.txt = ((({ data := #[40, 62, 32] } : ByteArray) ++ a.tree.txt) ++ ({ data := #[32] } : ByteArray)) ++ c.tree.txt ++ ({ data := #[41] } : ByteArray) := by
  apply ByteArray.ext; apply Array.toList_inj.1
  simp [STy.tree, Tree.txt, Tree.write, Tree.writes, sFn]
theorem kfn_txt (a c : STy) : ((((({ data := #[40] } : ByteArray) ++ ({ data := #[62] } : ByteArray)) ++ ({ data := #[32] } : ByteArray)) ++ a.tree.txt) ++ ({ data := #[32] } : ByteArray)) ++ c.tree.txt ++ ({ data := #[41] } : ByteArray) = (STy.fn a c).tree.txt := by
  apply ByteArray.ext; apply Array.toList_inj.1
  simp [STy.tree, Tree.txt, Tree.write, Tree.writes, sFn]
theorem kpr_txt (a c : STy) : ((((({ data := #[40] } : ByteArray) ++ ({ data := #[42] } : ByteArray)) ++ ({ data := #[32] } : ByteArray)) ++ a.tree.txt) ++ ({ data := #[32] } : ByteArray)) ++ c.tree.txt ++ ({ data := #[41] } : ByteArray) = (STy.pair a c).tree.txt := by
  apply ByteArray.ext; apply Array.toList_inj.1
  simp [STy.tree, Tree.txt, Tree.write, Tree.writes, sPr]
theorem fn_tsz (a c : STy) : (STy.fn a c).tree.txt.size = a.tree.txt.size + c.tree.txt.size + 5 := by
  rw [fn_txt]; simp only [ByteArray.size_append, bsz]; simp; omega
theorem pr_tsz (a c : STy) : (STy.pair a c).tree.txt.size = a.tree.txt.size + c.tree.txt.size + 5 := by
  rw [← kpr_txt]; simp only [ByteArray.size_append, bsz]; simp; omega
theorem bit_txt : (⟨#[98]⟩ : ByteArray) = STy.bit.tree.txt := rfl
def opK : List ByteArray := [⟨#[62]⟩, ⟨#[42]⟩]

set_option maxRecDepth 100000 in
set_option maxHeartbeats 2000000 in
theorem kdraw_any (b : Nat) : ∀ d, d ≤ 4 → ∀ (q : Nat) (w : World) (i : Int), Rd w b q → q + kcost d ≤ 1099511627776 → i = (d : Int) → Calls Tryd.prog 23 #[.pointer (some ⟨b, 0, none⟩), .int .i64 i] w (KDrawn b (q + kcost d) (ksize d) w) := by
  intro d
  induction d with
  | zero =>
    intro _ q w i hr _ hi
    subst hi
    have HR := hid hr
    clear hr
    go_enter Tryd.func23, Tryd.ntmps23
    go_wp2_with fail
    go_ret
    exact ⟨.bit, rfl, by decide, HR.out, Px.refl _ _⟩
  | succ d ih =>
    intro hd q w i hr hq hi
    subst hi
    have HC1 := hid (show kcost (d + 1) = 2 * kcost d + 2 from rfl)
    have HC2 := hid (show ksize (d + 1) = 2 * ksize d + 5 from rfl)
    rw [HC1.out] at hq
    have hks : ksize d ≤ 1000 := by
      have : d = 0 ∨ d = 1 ∨ d = 2 ∨ d = 3 := by omega
      rcases this with rfl | rfl | rfl | rfl <;> decide
    have hne : (((d + 1 : Nat) : Int) == 0) = false := beq_eq_false_iff_ne.2 (by omega)
    have hne2 : (((d : Int) + 1) == 0) = false := beq_eq_false_iff_ne.2 (by omega)
    have hpr : ((d + 1 : Nat) : Int) - 1 = (d : Int) := by omega
    have HP := hid (pick_any hr (by omega) 2 (by omega))
    have HV := hid (ih (by omega))
    have HB := hid hr.lt
    clear hr ih
    go_enter Tryd.func23, Tryd.ntmps23
    go_wp2_with fail
    go_at_call 21
    refine (HP.out).mono ?_
    rintro e w1 ⟨x1, rfl, hx1a, hx1b, _, hr1, hp1⟩
    have hx1c : x1 < 2 := hx1b (by decide)
    have HR1 := hid hr1
    have HX1 := hid hp1
    clear hr1 hp1 hx1b
    rcases two_cases hx1a hx1c with rfl | rfl
    · go_wp2_with fail
      go_ret
      exact ⟨.bit, rfl, by rw [HC2.out]; show 1 ≤ _; omega, HR1.out.le (by rw [HC1.out]; omega), HX1.out⟩
    · have hbl := Nat.lt_of_lt_of_le HB.out HX1.out.size
      have HO := hid (rof_mem (HR1.out.alloc (.cells (opK.map Value.string).toArray 9)) (by omega) w1.heap.size 2 2 opK (sv_lit w1 opK 2 2 9 rfl) (by omega) (by omega) (by omega))
      go_wp2_with fail
      go_at_call 25
      refine HO.out.mono ?_
      rintro e w2 ⟨s2, hs2, rfl, hr2, hp2⟩
      have HR2 := hid hr2
      have HX2 := hid ((HX1.out.alloc _).trans hp2)
      have hz2 : s2.size = 1 := by
        simp only [opK, List.mem_cons, List.mem_nil_iff, or_false] at hs2
        rcases hs2 with rfl | rfl <;> rfl
      clear hr2 hp2
      go_wp2_with fail
      go_at_call 23
      refine (HV.out _ _ _ HR2.out (by omega) (by omega)).mono ?_
      rintro e w3 ⟨K3, rfl, hs3, hr3, hp3⟩
      have hz3 : K3.tree.txt.size ≤ 1000 := Nat.le_trans hs3 hks
      have HR3 := hid hr3
      have HX3 := hid (HX2.out.trans hp3)
      have HS3 := hid hs3
      clear hr3 hp3 hs3
      obtain ⟨S3, hS3⟩ : ∃ S3, K3.tree.txt = S3 := ⟨_, rfl⟩
      have HE3 := hid hS3
      rw [hS3] at hz3 ⊢
      clear hS3
      go_wp2_with fail
      go_at_call 23
      refine (HV.out _ _ _ HR3.out (by omega) (by omega)).mono ?_
      rintro e w4 ⟨K4, rfl, hs4, hr4, hp4⟩
      have hz4 : K4.tree.txt.size ≤ 1000 := Nat.le_trans hs4 hks
      have HR4 := hid hr4
      have HX4 := hid (HX3.out.trans hp4)
      have HS4 := hid hs4
      clear hr4 hp4 hs4
      obtain ⟨S4, hS4⟩ : ∃ S4, K4.tree.txt = S4 := ⟨_, rfl⟩
      have HE4 := hid hS4
      rw [hS4] at hz4 ⊢
      clear hS4
      go_wp2_with fail
      go_ret
      simp only [opK, List.mem_cons, List.mem_nil_iff, or_false] at hs2
      have h3 := HS3.out
      have h4 := HS4.out
      rcases hs2 with rfl | rfl
      · exact ⟨.fn K3 K4, by rw [← HE3.out, ← HE4.out, ← kfn_txt]; rfl, by rw [fn_tsz, HC2.out]; omega, HR4.out.le (by rw [HC1.out]; omega), HX4.out⟩
      · exact ⟨.pair K3 K4, by rw [← HE3.out, ← HE4.out, ← kpr_txt]; rfl, by rw [pr_tsz, HC2.out]; omega, HR4.out.le (by rw [HC1.out]; omega), HX4.out⟩
end Go.Proofs.YtgogoekfidbpdaaDoor
