/- Merged: SrcS, SrcT, SrcD, SrcI, SrcJ, SrcK, SxI. -/
import Derived.Test.YtgogoekfidbpdaaDoorSQ9
import Derived.Test.YtgogoekfidbpdaaDoorSQ11
import Derived.Deep.RegionHeld3
import Derived.Test.YtgogoekfidbpdaaDoorSQ8
import Derived.Test.YtgogoekfidbpdaaDoorSQ0
namespace Go.Proofs.YtgogoekfidbpdaaDoor
open Go.RowKit

theorem sty_atom_b (s : ByteArray) : (Tree.atom s).sty.isSome = (s.toList == [98]) := by
  rw [Tree.sty]
  by_cases h : s.toList = [98]
  · rw [if_pos h]; simp [h]
  · rw [if_neg h]; simp [h]
set_option maxRecDepth 100000 in
set_option maxHeartbeats 2000000 in
theorem l7Source_any {w0 : World} {S : Nat → Prop} {t : Tree} {h : Hd} (ht : TIn w0 S t h) : ∀ w, Kept w0 w → w0.heap.size ≤ w.heap.size →
    Calls Tryd.prog 42 #[.agg #[.string h.a, .slice h.p h.l h.c]] w fun e w' => e = .returned (.bool t.sty.isSome) ∧ Below w.heap.size w w' := by
  induction ht with
  | atom s hne hm =>
    intro w _ _
    have he := isEmpty_not s hne
    have HE := hid (sty_atom_b s)
    go_enter Tryd.func42, Tryd.ntmps42
    go_wp2
    go_ret
    exact ⟨ret_bool HE.out.symm, (Below.refl _ _).alloc (by simp) _⟩
  | node ps b cap A hp hl hc hS hA hB hps ih =>
    intro w hk hw
    have HT := hid (fun W hk => l1Head_any (TIn.node ps b cap A hp hl hc hS hA hB hps) W hk)
    have hmc : ps.length ≤ 9223372036854775807 := by unfold maxLen at hc; omega
    have hin : 1 ≤ ps.length := hp
    by_cases h3 : ps.length = 3
    · obtain ⟨q, x, y, rfl⟩ : ∃ q x y, ps = [q, x, y] := by
        match ps, h3 with
        | [q, x, y], _ => exact ⟨q, x, y, rfl⟩
      have hx := ih 1 x rfl
      have hy := ih 2 y rfl
      have HX := hid hx
      have HY := hid hy
      have HBOX := hid (fun W hb => box3 (x := .string ByteArray.empty) (y := .slice (some ⟨b, 0, none⟩) 3 cap) (T := 44) hk hw (fun i hi => hA i hi) (fun i hi => hB i hi) W hb)
      have HK := hid hk
      have hhd : (Tree.node [q, x, y]).headAtom = q.text := rfl
      rw [hhd] at HT
      obtain ⟨hd, hhde⟩ : ∃ hd, hd = q.text := ⟨_, rfl⟩
      rw [← hhde] at HT
      have HHD := hid hhde
      clear hx hy ih hps hA hB hk hhd hhde hin hmc h3 hp hl
      have W1 : ∀ Wx, Below (w.alloc (.cells #[.string ByteArray.empty, .slice (some ⟨b, 0, none⟩) 3 cap] 44)).heap.size (w.alloc (.cells #[.string ByteArray.empty, .slice (some ⟨b, 0, none⟩) 3 cap] 44)) Wx → Below (w.heap.size + 1) (w.alloc (.cells #[.string ByteArray.empty, .slice (some ⟨b, 0, none⟩) 3 cap] 44)) Wx := fun Wx h => by simpa using h
      have W1 := hid W1
      have hk1 := hid (fun o => hk_alloc (HK.out) hw o)
      obtain ⟨bx, hbx⟩ : ∃ bx, bx = x.sty.isSome := ⟨_, rfl⟩
      obtain ⟨bY, hby⟩ : ∃ bY, bY = y.sty.isSome := ⟨_, rfl⟩
      rw [← hbx] at HX
      rw [← hby] at HY
      have HXE := hid hbx
      have HYE := hid hby
      clear hbx hby
      have HR1 := hid (fun (e : bx = false) => (show (Tree.node [q, x, y]).sty.isSome = false by
        rw [HXE.out] at e; rw [sty_bad1 (by simpa using e)]; rfl))
      have HR2 := hid (fun (e : bx = true) (e2 : hd.toList = [62] ∨ hd.toList = [42]) => (show (Tree.node [q, x, y]).sty.isSome = bY by
        rw [HXE.out] at e
        obtain ⟨a, ha⟩ := Option.isSome_iff_exists.1 e
        rw [HYE.out]
        cases hy2 : y.sty with
        | none => rw [sty_bad2 hy2]
        | some c =>
          rw [sty_three ha hy2, ← HHD.out]
          rcases e2 with e2 | e2
          · rw [if_pos e2]; rfl
          · rw [if_neg (by rw [e2]; decide), if_pos e2]; rfl))
      cases e0 : hd.toList == [62] with
      | true =>
        have E0 := hid (show hd.toList = [62] by simpa using e0)
        cases bx with
        | false =>
          go_enter Tryd.func42, Tryd.ntmps42
          go_wp2_with (first | (have _ := HC1; go_at_call 42; refine (HX.out _ HC1.out (by omega)).mono ?_; rintro e w2 ⟨rfl, hb2⟩) | (go_at_call 24; refine (HT.out _ (hk1.out _)).mono ?_; rintro e w1 ⟨rfl, hb1⟩; have hc1 := HBOX.out w1 (W1.out w1 hb1); obtain ⟨⟨c1, c2⟩, ⟨c3, c4, c5, c6, c7, c8⟩, c9, c10, c11⟩ := hc1; have HC1 := hid c9; have HB1 := hid c11; clear c9 c11 hb1))
          go_ret
          exact ⟨ret_bool (HR1.out (by simp)).symm, HB1.out.trans (hb2.mono (by omega))⟩
        | true =>
          go_enter Tryd.func42, Tryd.ntmps42
          go_wp2_with (first | (have _ := HB2; go_at_call 42; refine (HY.out _ HC2.out (by omega)).mono ?_; rintro e w3 ⟨rfl, hb3⟩) | (have _ := HC1; go_at_call 42; refine (HX.out _ HC1.out (by omega)).mono ?_; rintro e w2 ⟨rfl, hb2⟩; have s2 := hb2.size; have HC2 := hid (HC1.out.below hb2 (by omega)); have hc2 := HBOX.out w2 (HW1.out.trans (hb2.mono (by omega))); obtain ⟨⟨d1, d2⟩, ⟨d3, d4, d5, d6, d7, d8⟩, d9, d10, d11⟩ := hc2; have HB2 := hid d11; clear d9 d11 hb2) | (go_at_call 24; refine (HT.out _ (hk1.out _)).mono ?_; rintro e w1 ⟨rfl, hb1⟩; have HW1 := hid (W1.out w1 hb1); have hc1 := HBOX.out w1 (HW1.out); obtain ⟨⟨c1, c2⟩, ⟨c3, c4, c5, c6, c7, c8⟩, c9, c10, c11⟩ := hc1; have HC1 := hid c9; have HB1 := hid c11; clear c9 c11 hb1))
          go_ret
          exact ⟨ret_bool (HR2.out (by simp) (Or.inl E0.out)).symm, HB2.out.trans (hb3.mono (by omega))⟩
      | false =>
        cases e1 : hd.toList == [42] with
        | true =>
          have E0 := hid (show hd.toList = [42] by simpa using e1)
          cases bx with
          | false =>
            go_enter Tryd.func42, Tryd.ntmps42
            go_wp2_with (first | (have _ := HC1; go_at_call 42; refine (HX.out _ HC1.out (by omega)).mono ?_; rintro e w2 ⟨rfl, hb2⟩) | (go_at_call 24; refine (HT.out _ (hk1.out _)).mono ?_; rintro e w1 ⟨rfl, hb1⟩; have hc1 := HBOX.out w1 (W1.out w1 hb1); obtain ⟨⟨c1, c2⟩, ⟨c3, c4, c5, c6, c7, c8⟩, c9, c10, c11⟩ := hc1; have HC1 := hid c9; have HB1 := hid c11; clear c9 c11 hb1))
            go_ret
            exact ⟨ret_bool (HR1.out (by simp)).symm, HB1.out.trans (hb2.mono (by omega))⟩
          | true =>
            go_enter Tryd.func42, Tryd.ntmps42
            go_wp2_with (first | (have _ := HB2; go_at_call 42; refine (HY.out _ HC2.out (by omega)).mono ?_; rintro e w3 ⟨rfl, hb3⟩) | (have _ := HC1; go_at_call 42; refine (HX.out _ HC1.out (by omega)).mono ?_; rintro e w2 ⟨rfl, hb2⟩; have s2 := hb2.size; have HC2 := hid (HC1.out.below hb2 (by omega)); have hc2 := HBOX.out w2 (HW1.out.trans (hb2.mono (by omega))); obtain ⟨⟨d1, d2⟩, ⟨d3, d4, d5, d6, d7, d8⟩, d9, d10, d11⟩ := hc2; have HB2 := hid d11; clear d9 d11 hb2) | (go_at_call 24; refine (HT.out _ (hk1.out _)).mono ?_; rintro e w1 ⟨rfl, hb1⟩; have HW1 := hid (W1.out w1 hb1); have hc1 := HBOX.out w1 (HW1.out); obtain ⟨⟨c1, c2⟩, ⟨c3, c4, c5, c6, c7, c8⟩, c9, c10, c11⟩ := hc1; have HC1 := hid c9; have HB1 := hid c11; clear c9 c11 hb1))
            go_ret
            exact ⟨ret_bool (HR2.out (by simp) (Or.inr E0.out)).symm, HB2.out.trans (hb3.mono (by omega))⟩
        | false =>
          have HR := hid (show (Tree.node [q, x, y]).sty.isSome = false by
            rw [sty_bad0 (by rw [← HHD.out]; simpa using e0) (by rw [← HHD.out]; simpa using e1)]; rfl)
          go_enter Tryd.func42, Tryd.ntmps42
          go_wp2_with ((go_at_call 24; refine (HT.out _ (hk1.out _)).mono ?_; rintro e w1 ⟨rfl, hb1⟩; have hc1 := HBOX.out w1 (W1.out w1 hb1); obtain ⟨⟨c1, c2⟩, ⟨c3, c4, c5, c6, c7, c8⟩, c9, c10, c11⟩ := hc1; have HC1 := hid c9; have HB1 := hid c11; clear c9 c11 hb1))
          go_ret
          exact ⟨ret_bool HR.out.symm, HB1.out⟩
    · have HR := hid (show (Tree.node ps).sty.isSome = false by rw [sty_not3 h3]; rfl)
      obtain ⟨n, hn⟩ : ∃ n, n = ps.length := ⟨_, rfl⟩
      rw [← hn] at hin h3 hmc ⊢
      have h4 : ((n : Int) == 3) = false := by simp; omega
      have HB1 := hid (fun W hb => (cells_of_pair (block_below (heap_new w (.cells #[.string ByteArray.empty, .slice (some ⟨b, 0, none⟩) n cap] 44) w.heap.size rfl) (B := w.heap.size + 1) (w' := W) hb (by omega))))
      have HK := hid (fun o => hk_alloc hk hw o)
      obtain ⟨hd, hhde⟩ : ∃ hd, hd = (Tree.node ps).headAtom := ⟨_, rfl⟩
      rw [← hhde, ← hn] at HT
      clear hhde ih hps hA hB hk hp hl h3
      have W1 : ∀ Wx, Below (w.alloc (.cells #[.string ByteArray.empty, .slice (some ⟨b, 0, none⟩) n cap] 44)).heap.size (w.alloc (.cells #[.string ByteArray.empty, .slice (some ⟨b, 0, none⟩) n cap] 44)) Wx → Below (w.heap.size + 1) (w.alloc (.cells #[.string ByteArray.empty, .slice (some ⟨b, 0, none⟩) n cap] 44)) Wx := fun Wx h => by simpa using h
      have W1 := hid W1
      clear hn
      cases e0 : hd.toList == [62] with
      | true =>
        go_enter Tryd.func42, Tryd.ntmps42
        go_wp2_with (go_at_call 24; refine (HT.out _ (HK.out _)).mono ?_; rintro e w1 ⟨rfl, hb1⟩; have hc1 := HB1.out w1 (W1.out w1 hb1); obtain ⟨c1, c2, -, -⟩ := hc1)
        go_ret
        exact ⟨ret_bool HR.out.symm, ((Below.refl _ _).alloc (Nat.le_refl _) _).trans (hb1.mono (by simp))⟩
      | false =>
        cases e1 : hd.toList == [42] with
        | true =>
          go_enter Tryd.func42, Tryd.ntmps42
          go_wp2_with (go_at_call 24; refine (HT.out _ (HK.out _)).mono ?_; rintro e w1 ⟨rfl, hb1⟩; have hc1 := HB1.out w1 (W1.out w1 hb1); obtain ⟨c1, c2, -, -⟩ := hc1)
          go_ret
          exact ⟨ret_bool HR.out.symm, ((Below.refl _ _).alloc (Nat.le_refl _) _).trans (hb1.mono (by simp))⟩
        | false =>
          go_enter Tryd.func42, Tryd.ntmps42
          go_wp2_with (go_at_call 24; refine (HT.out _ (HK.out _)).mono ?_; rintro e w1 ⟨rfl, hb1⟩; have hc1 := HB1.out w1 (W1.out w1 hb1); obtain ⟨c1, c2, -, -⟩ := hc1)
          go_ret
          exact ⟨ret_bool HR.out.symm, ((Below.refl _ _).alloc (Nat.le_refl _) _).trans (hb1.mono (by simp))⟩
end Go.Proofs.YtgogoekfidbpdaaDoor

namespace Go.Proofs.YtgogoekfidbpdaaDoor
open Go.RowKit

theorem styPost_close {s : ByteArray} {w w' : World} {t : Tree} {a : ByteArray} {p : Option Addr} {l c : Nat} (hp : parse s = some t) (hk : t.sty.isSome = true)
    (ht : TIn w' (fun b => w.heap.size ≤ b) t ⟨a, p, l, c⟩) (hb : Below w.heap.size w w') : TreePost (styTree s) w (.returned (.tuple #[.agg #[.string a, .slice p l c], .bool (decide ((t.size : Int) ≤ 12))])) w' := by
  by_cases h : t.size ≤ 12
  · have e : styTree s = some t := by rw [styTree, hp]; simp only; rw [if_pos ⟨hk, h⟩]
    have d : decide ((t.size : Int) ≤ 12) = true := decide_eq_true (by omega)
    rw [e, d]; exact treePost_some ht hb
  · have e : styTree s = none := by rw [styTree, hp]; simp only; rw [if_neg (fun x => h x.2)]
    have d : decide ((t.size : Int) ≤ 12) = false := decide_eq_false (by omega)
    rw [e, d]; exact treePost_none ht.len hb

set_option maxRecDepth 100000 in
set_option maxHeartbeats 2000000 in
theorem l7Typed_yes (s : ByteArray) (hs : s.size ≤ 400000000) (w : World) (t : Tree) (hp : parse s = some t) (hk : t.sty.isSome = true) : Calls Tryd.prog 19 #[.string s] w (TreePost (styTree s) w) := by
  have HC := hid (fun W => l1Parse_any s hs W)
  have HP := hid hp
  have hwt := parse_wt hp
  have hsz := size_le_wt t
  clear hp
  go_enter Tryd.func19, Tryd.ntmps19
  go_wp2_with (go_at_call 34; refine (HC.out _).mono ?_; rintro e w1 hp; rw [HP.out] at hp; obtain ⟨pa, pp, pl, pc, rfl, hb1, ht⟩ := hp.some; clear hp)
  have q0 := block_below (heap_new w (.cells #[.string ByteArray.empty, .slice none 0 0] 44) _ rfl) hb1 (by simp)
  have hlt := lt_of_block q0
  have e0 : ByteArray.empty = ({ data := #[] } : ByteArray) := rfl
  rw [e0] at q0
  clear e0
  obtain ⟨W, hW⟩ : ∃ W, W = w1.alloc (.cells #[.string pa, .slice pp pl pc] 44) := ⟨_, rfl⟩
  have kW : Kept w1 W := hW ▸ (Kept.refl w1).alloc (Nat.le_refl _) _
  have sW : w1.heap.size + 1 = W.heap.size := by rw [hW]; simp
  have c0 := cells_of_pair (pair_alloc q0 (.cells #[.string pa, .slice pp pl pc] 44))
  have c1 := cells_of_pair (heap_new w1 (.cells #[.string pa, .slice pp pl pc] 44) _ rfl)
  rw [← hW] at c0 c1 ⊢
  have SW := hid sW
  have HRES := hid (hW ▸ pair_alloc q0 (.cells #[.string pa, .slice pp pl pc] 44))
  have ht2 : TIn w1 (fun b => w.heap.size + 1 ≤ b) t ⟨pa, pp, pl, pc⟩ := ht.keep (fun _ _ _ => rfl) (fun k hk _ => by simpa using hk)
  have hsz2 : t.size ≤ 12000 := by omega
  have HC1 := hid (fun Wx (hb : But w.heap.size W Wx) => hk ▸ l7Source_any (ht2.keep (w' := Wx) (S' := fun _ => True) (fun k hk hl => (hb.block k (by omega) (by omega)).trans (kW k hl)) (fun _ _ _ => trivial)) Wx (Kept.refl _) (Nat.le_refl _))
  have HC2 := hid (fun Wx (hb : But w.heap.size W Wx) => l1Size_any (ht2.keep (w' := Wx) (S' := fun _ => True) (fun k hk hl => (hb.block k (by omega) (by omega)).trans (kW k hl)) (fun _ _ _ => trivial)) hsz2 Wx (Kept.refl _) (Nat.le_refl _))
  have HWE := hid hW
  have HB1 := hid hb1
  have HT := hid ht
  have HK := hid hk
  clear hW sW kW hb1 q0 ht ht2
  have hl1 : w1.heap.size < W.heap.size := by have := SW.out; omega
  have hl0 : w.heap.size < W.heap.size := by omega
  go_region_with (first | (go_at_call 42; refine (HC1.out _ ?_).mono ?_; exact But.start HRES.out; rintro e w2 ⟨rfl, hb2⟩; have hbW := Below.thenH (Below.refl _ W).drew hb2; have kk := keepH c1 c0 hl1 hl0 hbW) | (go_at_call 36; refine (HC2.out _ ?_).mono ?_; exact But.call (But.start HRES.out) hl0 hb2; rintro e w3 ⟨rfl, hb3⟩; have hbW2 := Below.thenH hbW hb3; have kk2 := keepH c1 c0 hl1 hl0 hbW2))
  all_goals
    go_wp2_with fail
    refine bodyPost_ret (v := .tuple #[.agg #[.string pa, .slice pp pl pc], .bool (decide ((t.size : Int) ≤ 12))]) (by simp [results, Tryd.results19, go_sem, kk2.2.2.1, kk2.2.2.2.1]) rfl ?_
    go_light
    have hcl := tree_close HB1.out HT.out (HWE.out ▸ hbW2) (.string pa) (.slice pp pl pc)
    exact styPost_close HP.out HK.out hcl.1 hcl.2

set_option maxRecDepth 100000 in
set_option maxHeartbeats 2000000 in
theorem l7Typed_no (s : ByteArray) (hs : s.size ≤ 400000000) (w : World) (t : Tree) (hp : parse s = some t) (hk : t.sty.isSome = false) : Calls Tryd.prog 19 #[.string s] w (TreePost none w) := by
  have HC := hid (fun W => l1Parse_any s hs W)
  have HP := hid hp
  have hwt := parse_wt hp
  clear hp
  go_enter Tryd.func19, Tryd.ntmps19
  go_wp2_with (go_at_call 34; refine (HC.out _).mono ?_; rintro e w1 hp; rw [HP.out] at hp; obtain ⟨pa, pp, pl, pc, rfl, hb1, ht⟩ := hp.some; clear hp)
  have q0 := block_below (heap_new w (.cells #[.string ByteArray.empty, .slice none 0 0] 44) _ rfl) hb1 (by simp)
  have hlt := lt_of_block q0
  have e0 : ByteArray.empty = ({ data := #[] } : ByteArray) := rfl
  rw [e0] at q0
  clear e0
  obtain ⟨W, hW⟩ : ∃ W, W = w1.alloc (.cells #[.string pa, .slice pp pl pc] 44) := ⟨_, rfl⟩
  have kW : Kept w1 W := hW ▸ (Kept.refl w1).alloc (Nat.le_refl _) _
  have sW : w1.heap.size + 1 = W.heap.size := by rw [hW]; simp
  have c0 := cells_of_pair (pair_alloc q0 (.cells #[.string pa, .slice pp pl pc] 44))
  have c1 := cells_of_pair (heap_new w1 (.cells #[.string pa, .slice pp pl pc] 44) _ rfl)
  rw [← hW] at c0 c1 ⊢
  have SW := hid sW
  have HRES := hid (hW ▸ pair_alloc q0 (.cells #[.string pa, .slice pp pl pc] 44))
  have ht2 : TIn w1 (fun b => w.heap.size + 1 ≤ b) t ⟨pa, pp, pl, pc⟩ := ht.keep (fun _ _ _ => rfl) (fun k hk _ => by simpa using hk)
  have HC1 := hid (fun Wx (hb : But w.heap.size W Wx) => hk ▸ l7Source_any (ht2.keep (w' := Wx) (S' := fun _ => True) (fun k hk hl => (hb.block k (by omega) (by omega)).trans (kW k hl)) (fun _ _ _ => trivial)) Wx (Kept.refl _) (Nat.le_refl _))
  have HWE := hid hW
  have HB1 := hid hb1
  have HT := hid ht
  clear hW sW kW hb1 q0 ht ht2
  have hl1 : w1.heap.size < W.heap.size := by have := SW.out; omega
  have hl0 : w.heap.size < W.heap.size := by omega
  go_region_with (first | (go_at_call 42; refine (HC1.out _ ?_).mono ?_; exact But.start HRES.out; rintro e w2 ⟨rfl, hb2⟩; have hbW := Below.thenH (Below.refl _ W).drew hb2; have kk := keepH c1 c0 hl1 hl0 hbW))
  all_goals
    go_wp2_with fail
    refine bodyPost_ret (v := .tuple #[.agg #[.string pa, .slice pp pl pc], .bool false]) (by simp [results, Tryd.results19, go_sem, kk.2.2.1, kk.2.2.2.1]) rfl ?_
    go_light
    have hcl := tree_close HB1.out HT.out (HWE.out ▸ hbW) (.string pa) (.slice pp pl pc)
    exact treePost_none HT.out.len hcl.2

set_option maxRecDepth 100000 in
set_option maxHeartbeats 2000000 in
theorem l7Typed_none (s : ByteArray) (hs : s.size ≤ 400000000) (w : World) (hp : parse s = none) : Calls Tryd.prog 19 #[.string s] w (TreePost none w) := by
  have HC := hid (fun W => l1Parse_any s hs W)
  have HP := hid hp
  clear hp
  go_enter Tryd.func19, Tryd.ntmps19
  go_wp2_with (go_at_call 34; refine (HC.out _).mono ?_; rintro e w1 hp; rw [HP.out] at hp; obtain ⟨pa, pp, pl, pc, rfl, hpl, hb1⟩ := hp.none; clear hp)
  have q0 := block_below (heap_new w (.cells #[.string ByteArray.empty, .slice none 0 0] 44) _ rfl) hb1 (by simp)
  have hlt := lt_of_block q0
  have e0 : ByteArray.empty = ({ data := #[] } : ByteArray) := rfl
  rw [e0] at q0
  clear e0
  have c0 := cells_of_pair (pair_alloc q0 (.cells #[.string pa, .slice pp pl pc] 44))
  have c1 := cells_of_pair (heap_new w1 (.cells #[.string pa, .slice pp pl pc] 44) _ rfl)
  obtain ⟨W, hW⟩ : ∃ W, W = w1.alloc (.cells #[.string pa, .slice pp pl pc] 44) := ⟨_, rfl⟩
  rw [← hW] at c0 c1 ⊢
  have HWE := hid hW
  have HB1 := hid hb1
  clear q0 hb1 hW
  go_region
  all_goals
    go_wp2_with fail
    refine bodyPost_ret (v := .tuple #[.agg #[.string pa, .slice pp pl pc], .bool false]) (by simp [results, Tryd.results19, go_sem, c0.1, c0.2.1]) rfl ?_
    go_light
    have hcl := result_below HB1.out (.cells #[.string pa, .slice pp pl pc] 44) (.string pa) (.slice pp pl pc)
    rw [← HWE.out] at hcl
    exact treePost_none hpl (below_same hcl)

/-- THE MODEL's READING OF A TYPE. -/
theorem l7Typed_any (s : ByteArray) (hs : s.size ≤ 400000000) (w : World) : Calls Tryd.prog 19 #[.string s] w (TreePost (styTree s) w) := by
  cases hp : parse s with
  | none =>
    have e : styTree s = none := by rw [styTree, hp]
    rw [e]; exact l7Typed_none s hs w hp
  | some t =>
    cases hk : t.sty.isSome with
    | false =>
      have e : styTree s = none := by rw [styTree, hp]; simp [hk]
      rw [e]; exact l7Typed_no s hs w t hp hk
    | true => exact l7Typed_yes s hs w t hp hk
end Go.Proofs.YtgogoekfidbpdaaDoor

namespace Go.Proofs.YtgogoekfidbpdaaDoor
open Go.RowKit

set_option maxRecDepth 100000 in
set_option maxHeartbeats 2000000 in
theorem l7Default_pair {w : World} {b cap : Nat} {hd a1 a2 : ByteArray} {p0 p1 p2 : Option Addr} {n0 m0 n1 m1 n2 m2 : Nat} {A B : ByteArray} (hcap : 3 ≤ cap ∧ cap ≤ maxLen) (e0 : (hd.toList == [42]) = true)
    (c0 : w.cell? ⟨b, 0, none⟩ = some (.string hd)) (c1 : w.cell? ⟨b, 1, none⟩ = some (.slice p0 n0 m0))
    (c2 : w.cell? ⟨b, 2, none⟩ = some (.string a1)) (c3 : w.cell? ⟨b, 3, none⟩ = some (.slice p1 n1 m1)) (c4 : w.cell? ⟨b, 4, none⟩ = some (.string a2)) (c5 : w.cell? ⟨b, 5, none⟩ = some (.slice p2 n2 m2))
    (H1 : ∀ W, Kept w W → w.heap.size ≤ W.heap.size → Calls Tryd.prog 22 #[.agg #[.string a1, .slice p1 n1 m1]] W fun e w' => e = .returned (.string A) ∧ Below W.heap.size W w')
    (H2 : ∀ W, Kept w W → w.heap.size ≤ W.heap.size → Calls Tryd.prog 22 #[.agg #[.string a2, .slice p2 n2 m2]] W fun e w' => e = .returned (.string B) ∧ Below W.heap.size W w')
    (hA : A.size ≤ 24000) (hB : B.size ≤ 24000) :
    Calls Tryd.prog 22 #[.agg #[.string ByteArray.empty, .slice (some ⟨b, 0, none⟩) 3 cap]] w fun e w' => e = .returned (.string (((({ data := #[40, 112, 97, 105, 114, 32] } : ByteArray) ++ A) ++ ({ data := #[32] } : ByteArray)) ++ B ++ ({ data := #[41] } : ByteArray))) ∧ Below w.heap.size w w' := by
  have hmc : cap ≤ 9223372036854775807 := by have := hcap.2; unfold maxLen at this; omega
  have s1 : ¬ 9223372036854775807 < 6 + A.size := by omega
  have s2 : ¬ 9223372036854775807 < 6 + A.size + 1 := by omega
  have s3 : ¬ 9223372036854775807 < 6 + A.size + 1 + B.size := by omega
  have s4 : ¬ 9223372036854775807 < 6 + A.size + 1 + B.size + 1 := by omega
  have HC1 := hid H1
  have HC2 := hid H2
  have KC := hid (fun W (h : Kept w W) => (show W.cell? ⟨b, 0, none⟩ = some (.string hd) ∧ W.cell? ⟨b, 1, none⟩ = some (.slice p0 n0 m0) ∧ W.cell? ⟨b, 2, none⟩ = some (.string a1) ∧ W.cell? ⟨b, 3, none⟩ = some (.slice p1 n1 m1) ∧ W.cell? ⟨b, 4, none⟩ = some (.string a2) ∧ W.cell? ⟨b, 5, none⟩ = some (.slice p2 n2 m2) from ⟨h.cell c0, h.cell c1, h.cell c2, h.cell c3, h.cell c4, h.cell c5⟩))
  obtain ⟨W0, hW0⟩ : ∃ W0, W0 = w.alloc (.cells #[.string ByteArray.empty, .slice (some ⟨b, 0, none⟩) 3 cap] 44) := ⟨_, rfl⟩
  have hs0 : W0.heap.size = w.heap.size + 1 := by rw [hW0]; simp
  have hb0 : Below w.heap.size w W0 := by rw [hW0]; exact (Below.refl _ _).alloc (Nat.le_refl _) _
  have k0 : Kept w W0 := Kept.of_below hb0 (Nat.le_refl _)
  have hn0 := heap_new w (.cells #[.string ByteArray.empty, .slice (some ⟨b, 0, none⟩) 3 cap] 44) w.heap.size rfl
  rw [← hW0] at hn0
  have KB := hid (fun W (h : Below W0.heap.size W0 W) => (show W.cell? ⟨w.heap.size, 0, none⟩ = some (.string ByteArray.empty) ∧ W.cell? ⟨w.heap.size, 1, none⟩ = some (.slice (some ⟨b, 0, none⟩) 3 cap) from by
    have e := cells_of_pair (block_below hn0 h (by omega))
    exact ⟨e.1, e.2.1⟩))
  have HB0 := hid hb0
  have K0 := hid k0
  obtain ⟨d00, d000, d01, d02, d03, d04⟩ := KC.out W0 k0
  obtain ⟨d11, d12⟩ := KB.out W0 (Below.refl _ _)
  have hs1 : w.heap.size ≤ W0.heap.size := by omega
  have KC1 := hid (fun W (h : Below W0.heap.size W0 W) => (show (W.cell? ⟨b, 2, none⟩ = some (.string a1) ∧ W.cell? ⟨b, 3, none⟩ = some (.slice p1 n1 m1) ∧ W.cell? ⟨b, 4, none⟩ = some (.string a2) ∧ W.cell? ⟨b, 5, none⟩ = some (.slice p2 n2 m2)) ∧ Kept w W from ⟨(KC.out W (k0.below h hs1)).2.2, k0.below h hs1⟩))
  have KB1 := KB
  have HS1 := hid hs1
  clear H1 H2 c0 c1 c2 c3 c4 c5 hs0 hb0 hn0 k0 hs1
  subst hW0
  go_enter Tryd.func22, Tryd.ntmps22
  go_wp2_with fail
  go_region_held3 (fun w' => w'.cell? ⟨b, 2, none⟩ = some (.string a1) ∧ w'.cell? ⟨b, 3, none⟩ = some (.slice p1 n1 m1) ∧ w'.cell? ⟨b, 4, none⟩ = some (.string a2) ∧ w'.cell? ⟨b, 5, none⟩ = some (.slice p2 n2 m2) ∧ w'.cell? ⟨w.heap.size, 0, none⟩ = some (.string ByteArray.empty) ∧ w'.cell? ⟨w.heap.size, 1, none⟩ = some (.slice (some ⟨b, 0, none⟩) 3 cap) ∧ Below (w.alloc (.cells #[.string ByteArray.empty, .slice (some ⟨b, 0, none⟩) 3 cap] 44)).heap.size (w.alloc (.cells #[.string ByteArray.empty, .slice (some ⟨b, 0, none⟩) 3 cap] 44)) w')
    (first | exact ⟨d01, d02, d03, d04, d11, d12, (Below.refl _ _).drew⟩ | exact ⟨e31.1.1, e31.1.2.1, e31.1.2.2.1, e31.1.2.2.2, e32.1, e32.2, HB3.out⟩ | exact ⟨e21.1.1, e21.1.2.1, e21.1.2.2.1, e21.1.2.2.2, e22.1, e22.2, HB2.out⟩)
    (first
      | (have _ := HB2; go_at_call 22; go_split_ands; refine (HC2.out _ (KC1.out _ (by assumption)).2 (Nat.le_trans HS1.out (Below.size (by assumption)))).mono ?_; rintro e w3 ⟨rfl, hb3⟩; have hb03 := below_nx hb3 (by assumption); have e31 := KC1.out _ hb03; have e32 := KB1.out _ hb03; have HB3 := hid hb03; clear hb3 hb03)
      | (go_at_call 22; go_split_ands; refine (HC1.out _ (KC1.out _ (by assumption)).2 (Nat.le_trans HS1.out (Below.size (by assumption)))).mono ?_; rintro e w2 ⟨rfl, hb2⟩; have hb02 := below_nx hb2 (by assumption); have e21 := KC1.out _ hb02; have e22 := KB1.out _ hb02; have HB2 := hid hb02; clear hb2 hb02))
  go_wp2_with fail
  go_ret
  exact ⟨rfl, HB0.out.trans (HB3.out.mono (by simp))⟩

set_option maxRecDepth 100000 in
set_option maxHeartbeats 2000000 in
theorem l7Default_fn {w : World} {b cap : Nat} {hd a1 a2 : ByteArray} {p0 p1 p2 : Option Addr} {n0 m0 n1 m1 n2 m2 : Nat} {A B : ByteArray} (hcap : 3 ≤ cap ∧ cap ≤ maxLen) (e0 : (hd.toList == [42]) = false)
    (c0 : w.cell? ⟨b, 0, none⟩ = some (.string hd)) (c1 : w.cell? ⟨b, 1, none⟩ = some (.slice p0 n0 m0))
    (c2 : w.cell? ⟨b, 2, none⟩ = some (.string a1)) (c3 : w.cell? ⟨b, 3, none⟩ = some (.slice p1 n1 m1)) (c4 : w.cell? ⟨b, 4, none⟩ = some (.string a2)) (c5 : w.cell? ⟨b, 5, none⟩ = some (.slice p2 n2 m2))
    (H1 : ∀ W, Kept w W → w.heap.size ≤ W.heap.size → Calls Tryd.prog 26 #[.agg #[.string a1, .slice p1 n1 m1]] W fun e w' => e = .returned (.string A) ∧ Below W.heap.size W w')
    (H2 : ∀ W, Kept w W → w.heap.size ≤ W.heap.size → Calls Tryd.prog 22 #[.agg #[.string a2, .slice p2 n2 m2]] W fun e w' => e = .returned (.string B) ∧ Below W.heap.size W w')
    (hA : A.size ≤ 24000) (hB : B.size ≤ 24000) :
    Calls Tryd.prog 22 #[.agg #[.string ByteArray.empty, .slice (some ⟨b, 0, none⟩) 3 cap]] w fun e w' => e = .returned (.string (((({ data := #[40, 108, 97, 109, 32, 120, 32] } : ByteArray) ++ A) ++ ({ data := #[32] } : ByteArray)) ++ B ++ ({ data := #[41] } : ByteArray))) ∧ Below w.heap.size w w' := by
  have hmc : cap ≤ 9223372036854775807 := by have := hcap.2; unfold maxLen at this; omega
  have s1 : ¬ 9223372036854775807 < 7 + A.size := by omega
  have s2 : ¬ 9223372036854775807 < 7 + A.size + 1 := by omega
  have s3 : ¬ 9223372036854775807 < 7 + A.size + 1 + B.size := by omega
  have s4 : ¬ 9223372036854775807 < 7 + A.size + 1 + B.size + 1 := by omega
  have HC1 := hid H1
  have HC2 := hid H2
  have KC := hid (fun W (h : Kept w W) => (show W.cell? ⟨b, 0, none⟩ = some (.string hd) ∧ W.cell? ⟨b, 1, none⟩ = some (.slice p0 n0 m0) ∧ W.cell? ⟨b, 2, none⟩ = some (.string a1) ∧ W.cell? ⟨b, 3, none⟩ = some (.slice p1 n1 m1) ∧ W.cell? ⟨b, 4, none⟩ = some (.string a2) ∧ W.cell? ⟨b, 5, none⟩ = some (.slice p2 n2 m2) from ⟨h.cell c0, h.cell c1, h.cell c2, h.cell c3, h.cell c4, h.cell c5⟩))
  obtain ⟨W0, hW0⟩ : ∃ W0, W0 = w.alloc (.cells #[.string ByteArray.empty, .slice (some ⟨b, 0, none⟩) 3 cap] 44) := ⟨_, rfl⟩
  have hs0 : W0.heap.size = w.heap.size + 1 := by rw [hW0]; simp
  have hb0 : Below w.heap.size w W0 := by rw [hW0]; exact (Below.refl _ _).alloc (Nat.le_refl _) _
  have k0 : Kept w W0 := Kept.of_below hb0 (Nat.le_refl _)
  have hn0 := heap_new w (.cells #[.string ByteArray.empty, .slice (some ⟨b, 0, none⟩) 3 cap] 44) w.heap.size rfl
  rw [← hW0] at hn0
  have KB := hid (fun W (h : Below W0.heap.size W0 W) => (show W.cell? ⟨w.heap.size, 0, none⟩ = some (.string ByteArray.empty) ∧ W.cell? ⟨w.heap.size, 1, none⟩ = some (.slice (some ⟨b, 0, none⟩) 3 cap) from by
    have e := cells_of_pair (block_below hn0 h (by omega))
    exact ⟨e.1, e.2.1⟩))
  have HB0 := hid hb0
  have K0 := hid k0
  obtain ⟨d00, d000, d01, d02, d03, d04⟩ := KC.out W0 k0
  obtain ⟨d11, d12⟩ := KB.out W0 (Below.refl _ _)
  have hs1 : w.heap.size ≤ W0.heap.size := by omega
  have KC1 := hid (fun W (h : Below W0.heap.size W0 W) => (show (W.cell? ⟨b, 2, none⟩ = some (.string a1) ∧ W.cell? ⟨b, 3, none⟩ = some (.slice p1 n1 m1) ∧ W.cell? ⟨b, 4, none⟩ = some (.string a2) ∧ W.cell? ⟨b, 5, none⟩ = some (.slice p2 n2 m2)) ∧ Kept w W from ⟨(KC.out W (k0.below h hs1)).2.2, k0.below h hs1⟩))
  have KB1 := KB
  have HS1 := hid hs1
  clear H1 H2 c0 c1 c2 c3 c4 c5 hs0 hb0 hn0 k0 hs1
  subst hW0
  go_enter Tryd.func22, Tryd.ntmps22
  go_wp2_with fail
  go_region_held3 (fun w' => w'.cell? ⟨b, 2, none⟩ = some (.string a1) ∧ w'.cell? ⟨b, 3, none⟩ = some (.slice p1 n1 m1) ∧ w'.cell? ⟨b, 4, none⟩ = some (.string a2) ∧ w'.cell? ⟨b, 5, none⟩ = some (.slice p2 n2 m2) ∧ w'.cell? ⟨w.heap.size, 0, none⟩ = some (.string ByteArray.empty) ∧ w'.cell? ⟨w.heap.size, 1, none⟩ = some (.slice (some ⟨b, 0, none⟩) 3 cap) ∧ Below (w.alloc (.cells #[.string ByteArray.empty, .slice (some ⟨b, 0, none⟩) 3 cap] 44)).heap.size (w.alloc (.cells #[.string ByteArray.empty, .slice (some ⟨b, 0, none⟩) 3 cap] 44)) w')
    (first | exact ⟨d01, d02, d03, d04, d11, d12, (Below.refl _ _).drew⟩ | exact ⟨e31.1.1, e31.1.2.1, e31.1.2.2.1, e31.1.2.2.2, e32.1, e32.2, HB3.out⟩ | exact ⟨e21.1.1, e21.1.2.1, e21.1.2.2.1, e21.1.2.2.2, e22.1, e22.2, HB2.out⟩)
    (first
      | (have _ := HB2; go_at_call 22; go_split_ands; refine (HC2.out _ (KC1.out _ (by assumption)).2 (Nat.le_trans HS1.out (Below.size (by assumption)))).mono ?_; rintro e w3 ⟨rfl, hb3⟩; have hb03 := below_nx hb3 (by assumption); have e31 := KC1.out _ hb03; have e32 := KB1.out _ hb03; have HB3 := hid hb03; clear hb3 hb03)
      | (go_at_call 26; go_split_ands; refine (HC1.out _ (KC1.out _ (by assumption)).2 (Nat.le_trans HS1.out (Below.size (by assumption)))).mono ?_; rintro e w2 ⟨rfl, hb2⟩; have hb02 := below_nx hb2 (by assumption); have e21 := KC1.out _ hb02; have e22 := KB1.out _ hb02; have HB2 := hid hb02; clear hb2 hb02))
  go_wp2_with fail
  go_ret
  exact ⟨rfl, HB0.out.trans (HB3.out.mono (by simp))⟩

theorem dfl_pair_txt (a b : STy) : (STy.pair a b).dfl.txt = (((({ data := #[40, 112, 97, 105, 114, 32] } : ByteArray) ++ a.dfl.txt) ++ ({ data := #[32] } : ByteArray)) ++ b.dfl.txt ++ ({ data := #[41] } : ByteArray)) := by
  apply ByteArray.ext; apply Array.toList_inj.1
  simp [STy.dfl, Tree.txt, Tree.write, Tree.writes]
theorem dfl_fn_txt (a b : STy) : (STy.fn a b).dfl.txt = (((({ data := #[40, 108, 97, 109, 32, 120, 32] } : ByteArray) ++ a.tree.txt) ++ ({ data := #[32] } : ByteArray)) ++ b.dfl.txt ++ ({ data := #[41] } : ByteArray)) := by
  apply ByteArray.ext; apply Array.toList_inj.1
  simp [STy.dfl, Tree.txt, Tree.write, Tree.writes]

set_option maxHeartbeats 1000000 in
/-- THE MODEL's SIMPLE EXPRESSION. -/
theorem l7Default_any {w0 : World} {S : Nat → Prop} (s : STy) : ∀ {h : Hd}, TIn w0 S s.tree h → s.n ≤ 200 → ∀ w, Kept w0 w → w0.heap.size ≤ w.heap.size →
    Calls Tryd.prog 22 #[.agg #[.string h.a, .slice h.p h.l h.c]] w fun e w' => e = .returned (.string s.dfl.txt) ∧ Below w.heap.size w w' := by
  induction s with
  | bit =>
    intro h ht _ w _ _
    cases ht with
    | atom x hne hm =>
      have he := isEmpty_not sBit hne
      have HX := hid (show ({ data := #[48] } : ByteArray) = STy.bit.dfl.txt from rfl)
      go_enter Tryd.func22, Tryd.ntmps22
      go_wp2
      go_ret
      exact ⟨ret_str HX.out, (Below.refl _ _).alloc (by simp) _⟩
  | fn a b iha ihb =>
    intro h ht hn w hk hw
    obtain ⟨g, cap, A, rfl, hcap, hA, hB, h0, h1, h2⟩ := tin3 ht
    simp only [STy.n] at hn
    have c0 := hk.cell (hA 0 (by omega)); have c1 := hk.cell (hB 0 (by omega)); have c2 := hk.cell (hA 1 (by omega)); have c3 := hk.cell (hB 1 (by omega)); have c4 := hk.cell (hA 2 (by omega)); have c5 := hk.cell (hB 2 (by omega))
    have l1 := tree_len a; have l2 := dfl_len b; have l3 := tree_wt a
    rw [dfl_fn_txt]
    exact l7Default_fn hcap (by rw [h0.text]; show (sFn.toList == [42]) = false; rw [sFn_l]; rfl) c0 c1 c2 c3 c4 c5 (fun W hkW hs => l1Text_big h1 (by omega) (by omega) W (hk.trans hkW hw) (by omega)) (fun W hkW hs => ihb h2 (by omega) W (hk.trans hkW hw) (by omega)) (by rw [txt_size]; omega) (by rw [txt_size]; omega)
  | pair a b iha ihb =>
    intro h ht hn w hk hw
    obtain ⟨g, cap, A, rfl, hcap, hA, hB, h0, h1, h2⟩ := tin3 ht
    simp only [STy.n] at hn
    have c0 := hk.cell (hA 0 (by omega)); have c1 := hk.cell (hB 0 (by omega)); have c2 := hk.cell (hA 1 (by omega)); have c3 := hk.cell (hB 1 (by omega)); have c4 := hk.cell (hA 2 (by omega)); have c5 := hk.cell (hB 2 (by omega))
    have l1 := dfl_len a; have l2 := dfl_len b
    rw [dfl_pair_txt]
    exact l7Default_pair hcap (by rw [h0.text]; show (sPr.toList == [42]) = true; rw [sPr_l]; rfl) c0 c1 c2 c3 c4 c5 (fun W hkW hs => iha h1 (by omega) W (hk.trans hkW hw) (by omega)) (fun W hkW hs => ihb h2 (by omega) W (hk.trans hkW hw) (by omega)) (by rw [txt_size]; omega) (by rw [txt_size]; omega)
end Go.Proofs.YtgogoekfidbpdaaDoor

namespace Go.Proofs.YtgogoekfidbpdaaDoor
open Go.RowKit

/-- A source type's node in memory. 'S': which blocks it lies in. -/
inductive SIn (w : World) (S : Nat → Prop) : STy → Nat → Prop
  | bit (hd : ByteArray) (hh : hd.toList = [98]) (b : Nat) (hS : S b) (hb : w.heap[b]? = some (.cells #[.string hd, .pointer none, .pointer none] 78 (0, 0))) : SIn w S .bit b
  | fn (hd : ByteArray) (hh : hd.toList = [62]) (x y : STy) (b c d : Nat) (hS : S b) (hb : w.heap[b]? = some (.cells #[.string hd, .pointer (some ⟨c, 0, none⟩), .pointer (some ⟨d, 0, none⟩)] 78 (0, 0))) (hx : SIn w S x c) (hy : SIn w S y d) : SIn w S (.fn x y) b
  | pair (hd : ByteArray) (hh : hd.toList = [42]) (x y : STy) (b c d : Nat) (hS : S b) (hb : w.heap[b]? = some (.cells #[.string hd, .pointer (some ⟨c, 0, none⟩), .pointer (some ⟨d, 0, none⟩)] 78 (0, 0))) (hx : SIn w S x c) (hy : SIn w S y d) : SIn w S (.pair x y) b
theorem SIn.keep {w w' : World} {S S' : Nat → Prop} {s : STy} {b : Nat} (h : SIn w S s b) (hb : ∀ k, S k → k < w.heap.size → w'.heap[k]? = w.heap[k]?) (hS : ∀ k, S k → k < w.heap.size → S' k) : SIn w' S' s b := by
  induction h with
  | bit hd hh b hS0 hb0 => exact .bit hd hh b (hS b hS0 (lt_of_block hb0)) ((hb b hS0 (lt_of_block hb0)).trans hb0)
  | fn hd hh x y b c d hS0 hb0 _ _ ihx ihy => exact .fn hd hh x y b c d (hS b hS0 (lt_of_block hb0)) ((hb b hS0 (lt_of_block hb0)).trans hb0) ihx ihy
  | pair hd hh x y b c d hS0 hb0 _ _ ihx ihy => exact .pair hd hh x y b c d (hS b hS0 (lt_of_block hb0)) ((hb b hS0 (lt_of_block hb0)).trans hb0) ihx ihy
theorem SIn.kept {w w' : World} {S : Nat → Prop} {s : STy} {b : Nat} (h : SIn w S s b) (hk : Kept w w') : SIn w' S s b := h.keep (fun k _ hl => hk k hl) (fun _ h _ => h)
theorem SIn.wide {w : World} {S S' : Nat → Prop} {s : STy} {b : Nat} (h : SIn w S s b) (hS : ∀ k, S k → S' k) : SIn w S' s b := h.keep (fun _ _ _ => rfl) (fun k h _ => hS k h)
theorem cells_of_3 {w : World} {b : Nat} {x0 x1 x2 : Value} {t : TypeId} (h : w.heap[b]? = some (.cells #[x0, x1, x2] t (0, 0))) :
    w.cell? ⟨b, 0, none⟩ = some x0 ∧ w.cell? ⟨b, 1, none⟩ = some x1 ∧ w.cell? ⟨b, 2, none⟩ = some x2 := by simp [World.cell?, h]

/-- What sourceTypeOf leaves. -/
def SPost (o : Option STy) (w : World) (e : Ending) (w' : World) : Prop :=
  Below w.heap.size w w' ∧ match o with
    | some s => ∃ a : Nat, e = .returned (.tuple #[.pointer (some ⟨a, 0, none⟩), .bool true]) ∧ SIn w' (fun k => w.heap.size ≤ k) s a
    | none => e = .returned (.tuple #[.pointer none, .bool false])
theorem SPost.none {w w' : World} {e : Ending} (h : SPost Option.none w e w') : e = .returned (.tuple #[.pointer Option.none, .bool false]) ∧ Below w.heap.size w w' := ⟨h.2, h.1⟩
theorem SPost.some {w w' : World} {e : Ending} {s : STy} (h : SPost (Option.some s) w e w') : ∃ a : Nat, e = .returned (.tuple #[.pointer (Option.some ⟨a, 0, Option.none⟩), .bool true]) ∧ Below w.heap.size w w' ∧ SIn w' (fun k => w.heap.size ≤ k) s a :=
  let ⟨hb, a, he, hn⟩ := h; ⟨a, he, hb, hn⟩
theorem sPost_none {w w' : World} (h : Below w.heap.size w w') : SPost none w (.returned (.tuple #[.pointer none, .bool false])) w' := ⟨h, rfl⟩
theorem sPost_some {w w' : World} {s : STy} {a : Nat} (h : Below w.heap.size w w') (hn : SIn w' (fun k => w.heap.size ≤ k) s a) : SPost (some s) w (.returned (.tuple #[.pointer (some ⟨a, 0, none⟩), .bool true])) w' := ⟨h, a, rfl, hn⟩
/-- A node is put together. -/
theorem sNode {w w1 w2 w3 : World} {x y : STy} {c d : Nat} (hb1 : Below w.heap.size w w1) (hx : SIn w2 (fun k => w1.heap.size ≤ k) x c) (hb2 : Below w1.heap.size w1 w2) (hy : SIn w3 (fun k => w2.heap.size ≤ k) y d) (hb3 : Below w2.heap.size w2 w3) (hd : ByteArray) :
    Below w.heap.size w (w3.alloc (.cells #[.string hd, .pointer (some ⟨c, 0, none⟩), .pointer (some ⟨d, 0, none⟩)] 78)) ∧
    (hd.toList = [62] → SIn (w3.alloc (.cells #[.string hd, .pointer (some ⟨c, 0, none⟩), .pointer (some ⟨d, 0, none⟩)] 78)) (fun k => w.heap.size ≤ k) (.fn x y) w3.heap.size) ∧
    (hd.toList = [42] → SIn (w3.alloc (.cells #[.string hd, .pointer (some ⟨c, 0, none⟩), .pointer (some ⟨d, 0, none⟩)] 78)) (fun k => w.heap.size ≤ k) (.pair x y) w3.heap.size) := by
  have s1 := hb1.size; have s2 := hb2.size; have s3 := hb3.size
  have hx2 : SIn (w3.alloc (.cells #[.string hd, .pointer (some ⟨c, 0, none⟩), .pointer (some ⟨d, 0, none⟩)] 78)) (fun k => w.heap.size ≤ k) x c :=
    (hx.kept ((Kept.of_below hb3 (Nat.le_refl _)).alloc hb3.size _)).wide (fun k hk => by omega)
  have hy2 : SIn (w3.alloc (.cells #[.string hd, .pointer (some ⟨c, 0, none⟩), .pointer (some ⟨d, 0, none⟩)] 78)) (fun k => w.heap.size ≤ k) y d :=
    (hy.kept ((Kept.refl _).alloc (Nat.le_refl _) _)).wide (fun k hk => by omega)
  exact ⟨(hb1.trans ((hb2.trans (hb3.mono hb2.size)).mono hb1.size)).alloc (by omega) _, fun h => .fn hd h x y _ c d (by omega) (heap_alloc_new _ _) hx2 hy2, fun h => .pair hd h x y _ c d (by omega) (heap_alloc_new _ _) hx2 hy2⟩
end Go.Proofs.YtgogoekfidbpdaaDoor

namespace Go.Proofs.YtgogoekfidbpdaaDoor
open Go.RowKit

set_option maxRecDepth 100000 in
set_option maxHeartbeats 4000000 in
theorem sourceTypeOf_any {w0 : World} {S : Nat → Prop} {t : Tree} {h : Hd} (ht : TIn w0 S t h) : ∀ w, Kept w0 w → w0.heap.size ≤ w.heap.size →
    Calls Tryd.prog 68 #[.agg #[.string h.a, .slice h.p h.l h.c]] w (SPost t.sty w) := by
  induction ht with
  | atom s hne hm =>
    intro w _ _
    by_cases hb : s.toList = [98]
    · have h1 : (s.toList == [98]) = true := by simp [hb]
      have HR := hid (show (Tree.atom s).sty = some .bit by rw [Tree.sty, if_pos hb])
      clear hb
      go_enter Tryd.func68, Tryd.ntmps68
      go_wp2
      go_ret2
      rw [HR.out]
      exact sPost_some (((Below.refl _ _).alloc (Nat.le_refl _) _).alloc (by simp) _) (.bit ({ data := #[98] } : ByteArray) (by rw [Go.ByteArray.toList_eq]) (w.heap.size + 1) (Nat.le_succ _) (heap_new _ _ _ (by simp)))
    · have h1 : (s.toList == [98]) = false := by simpa using hb
      have HR := hid (show (Tree.atom s).sty = none by rw [Tree.sty, if_neg hb])
      clear hb
      go_enter Tryd.func68, Tryd.ntmps68
      go_wp2
      go_ret2
      rw [HR.out]
      exact sPost_none ((Below.refl _ _).alloc (Nat.le_refl _) _)
  | node ps b cap A hp hl hc hS hA hB hps ih =>
    intro w hk hw
    have he : (ByteArray.empty.toList == [98]) = false := by rw [empty_toList]; rfl
    have hmc : ps.length ≤ 9223372036854775807 := by unfold maxLen at hc; omega
    by_cases h3 : ps.length = 3
    · obtain ⟨q, x, y, rfl⟩ : ∃ q x y, ps = [q, x, y] := by
        match ps, h3 with
        | [q, x, y], _ => exact ⟨q, x, y, rfl⟩
      have HX := hid (ih 1 x rfl)
      have HY := hid (ih 2 y rfl)
      have HBOX := hid (fun W hb => box3 (x := .string ByteArray.empty) (y := .slice (some ⟨b, 0, none⟩) 3 cap) (T := 62) hk hw (fun i hi => hA i hi) (fun i hi => hB i hi) W hb)
      have HQ := hid (hps 0 q rfl).text
      have W1 := hid (show ∀ Wx, Below (w.alloc (.cells #[.string ByteArray.empty, .slice (some ⟨b, 0, none⟩) 3 cap] 62)).heap.size (w.alloc (.cells #[.string ByteArray.empty, .slice (some ⟨b, 0, none⟩) 3 cap] 62)) Wx → Below (w.heap.size + 1) (w.alloc (.cells #[.string ByteArray.empty, .slice (some ⟨b, 0, none⟩) 3 cap] 62)) Wx from fun Wx h => by simpa using h)
      obtain ⟨⟨o1, o2⟩, ⟨o3, o4, o5, o6, o7, o8⟩, o9, o10, o11⟩ := HBOX.out _ (Below.refl _ _)
      have KX := hid o9
      obtain ⟨hd, hde⟩ : ∃ hd, hd = (A 0).a := ⟨_, rfl⟩
      have HDE := hid hde
      rw [← hde] at HBOX o3
      clear o9 o11 hps hA hB hk h3 hp hl ih hmc hde
      cases hsx : x.sty with
      | none =>
        have HR := hid (show (Tree.node [q, x, y]).sty = none from sty_bad1 hsx)
        have HSX := hid hsx
        cases hsy : y.sty with
        | none =>
          have HSY := hid hsy
          clear hsx hsy
          go_enter Tryd.func68, Tryd.ntmps68
          go_wp2_with (first | (have _ := HB1; go_at_call 68; refine (HY.out _ HC1.out (by omega)).mono ?_; rintro e w3 hp; rw [HSY.out] at hp; obtain ⟨rfl, hb3⟩ := hp.none; clear hp) | (go_at_call 68; refine (HX.out _ KX.out (by simp; omega)).mono ?_; rintro e w2 hp; rw [HSX.out] at hp; obtain ⟨rfl, hb2⟩ := hp.none; clear hp; have hw2 := W1.out w2 hb2; obtain ⟨⟨c1, c2⟩, ⟨c3, c4, c5, c6, c7, c8⟩, c9, c10, c11⟩ := HBOX.out w2 hw2; have HC1 := hid c9; have HB1 := hid c11; have HB2 := hid hb2; clear c9 c11 hw2 hb2))
          go_ret2
          rw [HR.out]
          exact sPost_none (HB1.out.trans (hb3.mono (by omega)))
        | some a =>
          have HSY := hid hsy
          clear hsx hsy
          go_enter Tryd.func68, Tryd.ntmps68
          go_wp2_with (first | (have _ := HB1; go_at_call 68; refine (HY.out _ HC1.out (by omega)).mono ?_; rintro e w3 hp; rw [HSY.out] at hp; obtain ⟨a2, rfl, hb3, hn2⟩ := hp.some; clear hp) | (go_at_call 68; refine (HX.out _ KX.out (by simp; omega)).mono ?_; rintro e w2 hp; rw [HSX.out] at hp; obtain ⟨rfl, hb2⟩ := hp.none; clear hp; have hw2 := W1.out w2 hb2; obtain ⟨⟨c1, c2⟩, ⟨c3, c4, c5, c6, c7, c8⟩, c9, c10, c11⟩ := HBOX.out w2 hw2; have HC1 := hid c9; have HB1 := hid c11; have HB2 := hid hb2; clear c9 c11 hw2 hb2))
          go_ret2
          rw [HR.out]
          exact sPost_none (HB1.out.trans (hb3.mono (by omega)))
      | some a =>
        have HSX := hid hsx
        cases hsy : y.sty with
        | none =>
          have HR := hid (show (Tree.node [q, x, y]).sty = none from sty_bad2 hsy)
          have HSY := hid hsy
          clear hsx hsy
          go_enter Tryd.func68, Tryd.ntmps68
          go_wp2_with (first | (have _ := HB1; go_at_call 68; refine (HY.out _ HC1.out (by omega)).mono ?_; rintro e w3 hp; rw [HSY.out] at hp; obtain ⟨rfl, hb3⟩ := hp.none; clear hp) | (go_at_call 68; refine (HX.out _ KX.out (by simp; omega)).mono ?_; rintro e w2 hp; rw [HSX.out] at hp; obtain ⟨a1, rfl, hb2, hn1⟩ := hp.some; clear hp; have hw2 := W1.out w2 hb2; obtain ⟨⟨c1, c2⟩, ⟨c3, c4, c5, c6, c7, c8⟩, c9, c10, c11⟩ := HBOX.out w2 hw2; have HC1 := hid c9; have HB1 := hid c11; have HB2 := hid hb2; clear c9 c11 hw2 hb2; have HN1 := hid hn1; clear hn1))
          go_ret2
          rw [HR.out]
          exact sPost_none (HB1.out.trans (hb3.mono (by omega)))
        | some c =>
          have HSY := hid hsy
          have HR := hid (sty_three (h := q) hsx hsy)
          have HQE := hid (show hd = q.text by rw [HDE.out, HQ.out])
          clear hsx hsy
          cases e0 : hd.toList == [62] with
          | true =>
            have HR2 := hid (show (Tree.node [q, x, y]).sty = some (.fn a c) by rw [HR.out, ← HQE.out, if_pos (by simpa using e0)])
            have E0 := hid (show hd.toList = [62] by simpa using e0)
            go_enter Tryd.func68, Tryd.ntmps68
            go_wp2_with (first | (have _ := HB1; go_at_call 68; refine (HY.out _ HC1.out (by omega)).mono ?_; rintro e w3 hp; rw [HSY.out] at hp; obtain ⟨a2, rfl, hb3, hn2⟩ := hp.some; clear hp) | (go_at_call 68; refine (HX.out _ KX.out (by simp; omega)).mono ?_; rintro e w2 hp; rw [HSX.out] at hp; obtain ⟨a1, rfl, hb2, hn1⟩ := hp.some; clear hp; have hw2 := W1.out w2 hb2; obtain ⟨⟨c1, c2⟩, ⟨c3, c4, c5, c6, c7, c8⟩, c9, c10, c11⟩ := HBOX.out w2 hw2; have HC1 := hid c9; have HB1 := hid c11; have HB2 := hid hb2; clear c9 c11 hw2 hb2; have HN1 := hid hn1; clear hn1))
            go_ret2
            rw [HR2.out]
            obtain ⟨r1, r2, r3⟩ := sNode (((Below.refl w.heap.size w).alloc (Nat.le_refl _) _)) HN1.out HB2.out hn2 hb3 hd
            exact sPost_some r1 (r2 E0.out)
          | false =>
            cases e1 : hd.toList == [42] with
            | true =>
              have E0 := hid (show hd.toList = [42] by simpa using e1)
              have HR2 := hid (show (Tree.node [q, x, y]).sty = some (.pair a c) by rw [HR.out, ← HQE.out, if_neg (by rw [E0.out]; decide), if_pos E0.out])
              go_enter Tryd.func68, Tryd.ntmps68
              go_wp2_with (first | (have _ := HB1; go_at_call 68; refine (HY.out _ HC1.out (by omega)).mono ?_; rintro e w3 hp; rw [HSY.out] at hp; obtain ⟨a2, rfl, hb3, hn2⟩ := hp.some; clear hp) | (go_at_call 68; refine (HX.out _ KX.out (by simp; omega)).mono ?_; rintro e w2 hp; rw [HSX.out] at hp; obtain ⟨a1, rfl, hb2, hn1⟩ := hp.some; clear hp; have hw2 := W1.out w2 hb2; obtain ⟨⟨c1, c2⟩, ⟨c3, c4, c5, c6, c7, c8⟩, c9, c10, c11⟩ := HBOX.out w2 hw2; have HC1 := hid c9; have HB1 := hid c11; have HB2 := hid hb2; clear c9 c11 hw2 hb2; have HN1 := hid hn1; clear hn1))
              go_ret2
              rw [HR2.out]
              obtain ⟨r1, r2, r3⟩ := sNode (((Below.refl w.heap.size w).alloc (Nat.le_refl _) _)) HN1.out HB2.out hn2 hb3 hd
              exact sPost_some r1 (r3 E0.out)
            | false =>
              have HR2 := hid (show (Tree.node [q, x, y]).sty = none by rw [HR.out, ← HQE.out, if_neg (by simpa using e0), if_neg (by simpa using e1)])
              go_enter Tryd.func68, Tryd.ntmps68
              go_wp2_with (first | (have _ := HB1; go_at_call 68; refine (HY.out _ HC1.out (by omega)).mono ?_; rintro e w3 hp; rw [HSY.out] at hp; obtain ⟨a2, rfl, hb3, hn2⟩ := hp.some; clear hp) | (go_at_call 68; refine (HX.out _ KX.out (by simp; omega)).mono ?_; rintro e w2 hp; rw [HSX.out] at hp; obtain ⟨a1, rfl, hb2, hn1⟩ := hp.some; clear hp; have hw2 := W1.out w2 hb2; obtain ⟨⟨c1, c2⟩, ⟨c3, c4, c5, c6, c7, c8⟩, c9, c10, c11⟩ := HBOX.out w2 hw2; have HC1 := hid c9; have HB1 := hid c11; have HB2 := hid hb2; clear c9 c11 hw2 hb2; have HN1 := hid hn1; clear hn1))
              go_ret2
              rw [HR2.out]
              exact sPost_none (HB1.out.trans (hb3.mono (by omega)))
    · have HR := hid (show (Tree.node ps).sty = none from sty_not3 h3)
      obtain ⟨n, hn⟩ : ∃ n, n = ps.length := ⟨_, rfl⟩
      rw [← hn] at hmc h3 ⊢
      have h4 : ((n : Int) == 3) = false := by simp; omega
      have h5 : ((n : Int) != 3) = true := by simp; omega
      clear hps hA hB hk hp hl ih hn h3
      go_enter Tryd.func68, Tryd.ntmps68
      go_wp2
      go_ret2
      rw [HR.out]
      exact sPost_none ((Below.refl _ _).alloc (Nat.le_refl _) _)
end Go.Proofs.YtgogoekfidbpdaaDoor

namespace Go.Proofs.YtgogoekfidbpdaaDoor
open Go.RowKit

set_option maxRecDepth 100000 in
set_option maxHeartbeats 2000000 in
theorem limitedSourceType_any {w0 : World} {S : Nat → Prop} {t : Tree} {h : Hd} (ht : TIn w0 S t h) (hwt : t.wt ≤ 12000) (w : World) (hk : Kept w0 w) (hw : w0.heap.size ≤ w.heap.size) :
    Calls Tryd.prog 60 #[.agg #[.string h.a, .slice h.p h.l h.c]] w (SPost (stLim t) w) := by
  have hsz := size_le_wt t
  have HD := hid (fun W hk hs => atoms_any ht (by omega) W hk hs)
  have HE := hid (fun W hk hs => sourceTypeOf_any ht W hk hs)
  have HK := hid hk
  clear ht hk
  obtain ⟨pa, pp, pl, pc⟩ := h
  by_cases h12 : t.size ≤ 12
  · have HR := hid (show stLim t = t.sty by rw [stLim, if_pos h12])
    cases hty : t.sty with
    | none =>
      have HT := hid hty
      clear hty
      go_enter Tryd.func60, Tryd.ntmps60
      go_wp2_with (first | (go_at_call 29; refine (HD.out _ (HK.out.alloc hw _) (by simp; omega)).mono ?_; rintro e w2 ⟨rfl, hb2⟩; have k2 := cells_of_pair (block_below (heap_new w (.cells #[.string pa, .slice pp pl pc] 62) _ rfl) hb2 (by simp))) | (go_at_call 68; refine (HE.out _ ((HK.out.alloc hw _).below hb2 (by simp; omega)) (by have := hb2.size; simp at this; omega)).mono ?_; rintro e w3 hp; rw [HT.out] at hp; obtain ⟨rfl, hb3⟩ := hp.none; clear hp))
      go_ret2
      rw [HR.out, HT.out]
      have s2 := hb2.size
      simp at s2
      have hbw : Below w.heap.size w w3 := ((Below.refl _ _).alloc (Nat.le_refl _) _).trans ((hb2.mono (by simp)).trans (hb3.mono (by omega)))
      exact sPost_none hbw
    | some tp =>
      have HT := hid hty
      clear hty
      go_enter Tryd.func60, Tryd.ntmps60
      go_wp2_with (first | (go_at_call 29; refine (HD.out _ (HK.out.alloc hw _) (by simp; omega)).mono ?_; rintro e w2 ⟨rfl, hb2⟩; have k2 := cells_of_pair (block_below (heap_new w (.cells #[.string pa, .slice pp pl pc] 62) _ rfl) hb2 (by simp))) | (go_at_call 68; refine (HE.out _ ((HK.out.alloc hw _).below hb2 (by simp; omega)) (by have := hb2.size; simp at this; omega)).mono ?_; rintro e w3 hp; rw [HT.out] at hp; obtain ⟨a1, rfl, hb3, hn1⟩ := hp.some; clear hp))
      go_ret2
      rw [HR.out, HT.out]
      have s2 := hb2.size
      simp at s2
      have hbw : Below w.heap.size w w3 := ((Below.refl _ _).alloc (Nat.le_refl _) _).trans ((hb2.mono (by simp)).trans (hb3.mono (by omega)))
      exact sPost_some hbw (hn1.wide (fun k hk => by omega))
  · have HR := hid (show stLim t = none by rw [stLim, if_neg h12])
    have h13 : 12 < t.size := by omega
    clear h12
    go_enter Tryd.func60, Tryd.ntmps60
    go_wp2_with (go_at_call 29; refine (HD.out _ (HK.out.alloc hw _) (by simp; omega)).mono ?_; rintro e w2 ⟨rfl, hb2⟩)
    go_ret2
    rw [HR.out]
    exact sPost_none (((Below.refl _ _).alloc (by omega) _).trans (hb2.mono (by simp)))
end Go.Proofs.YtgogoekfidbpdaaDoor

namespace Go.Proofs.YtgogoekfidbpdaaDoor
open Go.RowKit

/-- A source type behind a pointer, or none. -/
def SyIn (w : World) (S : Nat → Prop) (o : Option STy) (v : Value) : Prop := match o with
  | none => v = .pointer none
  | some s => ∃ a : Nat, v = .pointer (some ⟨a, 0, none⟩) ∧ SIn w S s a
theorem SyIn.keep {w w' : World} {S S' : Nat → Prop} {o : Option STy} {v : Value} (h : SyIn w S o v) (hb : ∀ k, S k → k < w.heap.size → w'.heap[k]? = w.heap[k]?) (hS : ∀ k, S k → k < w.heap.size → S' k) : SyIn w' S' o v := by
  cases o with
  | none => exact h
  | some s => obtain ⟨a, e, hs⟩ := h; exact ⟨a, e, hs.keep hb hS⟩
theorem SyIn.one {w : World} {S : Nat → Prop} {o : Option STy} {v : Value} (h : SyIn w S o v) : ∃ p, v = .pointer p := by
  cases o with
  | none => exact ⟨none, h⟩
  | some s => obtain ⟨a, e, _⟩ := h; exact ⟨_, e⟩
/-- An expression's node in memory. 'S': which blocks it lies in. -/
inductive XIn (w : World) (S : Nat → Prop) : Sx → Nat → Prop
  | mk (e : Sx) (b : Nat) (tp : Value) (kp : Option Addr) (kl kc : Nat) (A : Nat → Nat) (hS : S b)
      (hb : w.heap[b]? = some (.cells #[.string e.head, .string e.atom, .string e.nm, tp, .slice kp kl kc] 69 (0, 0)))
      (hty : SyIn w S e.ty tp) (hkl : e.kids.length = kl) (hkc : kl ≤ kc) (hkv : RIn w S kp (ptrs A kl))
      (hks : ∀ i k, e.kids[i]? = some k → XIn w S k (A i)) : XIn w S e b
theorem XIn.keep {w w' : World} {S S' : Nat → Prop} {e : Sx} {b : Nat} (h : XIn w S e b) (hb : ∀ k, S k → k < w.heap.size → w'.heap[k]? = w.heap[k]?) (hS : ∀ k, S k → k < w.heap.size → S' k) : XIn w' S' e b := by
  induction h with
  | mk e b tp kp kl kc A hS0 hb0 hty hkl hkc hkv hks ih =>
    have hlt := lt_of_block hb0
    exact .mk e b tp kp kl kc A (hS b hS0 hlt) ((hb b hS0 hlt).trans hb0) (hty.keep hb hS) hkl hkc (hkv.keep hb hS) ih
theorem XIn.kept {w w' : World} {S : Nat → Prop} {e : Sx} {b : Nat} (h : XIn w S e b) (hk : Kept w w') : XIn w' S e b := h.keep (fun k _ hl => hk k hl) (fun _ h _ => h)
theorem XIn.wide {w : World} {S S' : Nat → Prop} {e : Sx} {b : Nat} (h : XIn w S e b) (hS : ∀ k, S k → S' k) : XIn w S' e b := h.keep (fun _ _ _ => rfl) (fun k h _ => hS k h)
theorem XIn.lt {w : World} {S : Nat → Prop} {e : Sx} {b : Nat} (h : XIn w S e b) : S b ∧ b < w.heap.size := by
  cases h with
  | mk _ _ tp kp kl kc A hS hb => exact ⟨hS, lt_of_block hb⟩

theorem Tryd.infoSrc : (Tryd.prog.info? 37).map (fun i => (i.zero, i.size, i.bytes)) = some (some (.pointer none), 1, 8) := by kernel_rfl
/-- A node's block, whose row of parts is the call's own. -/
structure B7At (w : World) (b : Nat) (hd : ByteArray) (st : Sst) (tp : Value) (kp : Option Addr) (kl kc : Nat) (A : Nat → Nat) : Prop where
  heap : w.heap[b]? = some (.cells #[.string hd, .string ByteArray.empty, .string st.nm, tp, .slice kp kl kc] 69 (0, 0))
  typ : SyIn w (fun x => b + 1 ≤ x ∧ (Value.slice kp kl kc).ownBlock ≠ some x) st.ty tp
  kids : w.ownsRow (b + 1) 37 1 (.slice kp kl kc) kl (ptrs A kl)
  hkl : st.ks.length = kl
  nodes : ∀ i k, st.ks[i]? = some k → XIn w (fun x => b + 1 ≤ x ∧ (Value.slice kp kl kc).ownBlock ≠ some x) k (A i)
def B7 (w : World) (b : Nat) (hd : ByteArray) (st : Sst) : Prop := ∃ tp kp kl kc A, B7At w b hd st tp kp kl kc A
theorem B7At.under {w w' : World} {b : Nat} {hd : ByteArray} {st : Sst} {tp : Value} {kp : Option Addr} {kl kc : Nat} {A : Nat → Nat} (h : B7At w b hd st tp kp kl kc A) (hb : Below w.heap.size w w') : B7At w' b hd st tp kp kl kc A :=
  ⟨block_below h.heap hb (lt_of_block h.heap), h.typ.keep (fun x _ hl => hb.block x hl) (fun _ hx _ => hx), ownsRow_under h.kids hb, h.hkl, fun i k hk => (h.nodes i k hk).keep (fun x _ hl => hb.block x hl) (fun _ hx _ => hx)⟩
theorem B7.under {w w' : World} {b : Nat} {hd : ByteArray} {st : Sst} (h : B7 w b hd st) (hb : Below w.heap.size w w') : B7 w' b hd st := by
  obtain ⟨tp, kp, kl, kc, A, H⟩ := h
  exact ⟨tp, kp, kl, kc, A, H.under hb⟩
theorem B7.lt {w : World} {b : Nat} {hd : ByteArray} {st : Sst} (h : B7 w b hd st) : b < w.heap.size := by
  obtain ⟨tp, kp, kl, kc, A, H⟩ := h
  exact lt_of_block H.heap
theorem B7At.start (w : World) (hd : ByteArray) (b : Nat) (hb : b = w.heap.size) : B7At (w.alloc (.cells #[.string hd, .string ByteArray.empty, .string ByteArray.empty, .pointer none, .slice none 0 0] 69)) b hd Sst.none (.pointer none) none 0 0 (fun _ => 0) :=
  ⟨heap_new _ _ _ hb, rfl, World.ownsRow_nil _ _ _ _, rfl, fun i k h => by simp [Sst.none] at h⟩
theorem cells_of_5 {w : World} {b : Nat} {x0 x1 x2 x3 x4 : Value} {t : TypeId} (h : w.heap[b]? = some (.cells #[x0, x1, x2, x3, x4] t (0, 0))) :
    w.cell? ⟨b, 0, none⟩ = some x0 ∧ w.cell? ⟨b, 1, none⟩ = some x1 ∧ w.cell? ⟨b, 2, none⟩ = some x2 ∧ w.cell? ⟨b, 3, none⟩ = some x3 ∧ w.cell? ⟨b, 4, none⟩ = some x4 ∧
    w.frozen? ⟨b, 2, none⟩ = false ∧ w.frozen? ⟨b, 3, none⟩ = false ∧ w.frozen? ⟨b, 4, none⟩ = false := by
  simp [World.cell?, World.frozen?, h]
theorem set_five {w : World} {b : Nat} {x0 x1 x2 x3 x4 u : Value} {t : TypeId} (h : w.heap[b]? = some (.cells #[x0, x1, x2, x3, x4] t (0, 0))) :
    (w.setCell ⟨b, 2, none⟩ u).heap[b]? = some (.cells #[x0, x1, u, x3, x4] t (0, 0)) ∧ (w.setCell ⟨b, 3, none⟩ u).heap[b]? = some (.cells #[x0, x1, x2, u, x4] t (0, 0)) ∧ (w.setCell ⟨b, 4, none⟩ u).heap[b]? = some (.cells #[x0, x1, x2, x3, u] t (0, 0)) := by
  have hlt := lt_of_block h
  have h' : w.heap[b] = .cells #[x0, x1, x2, x3, x4] t (0, 0) := by simpa [Array.getElem?_eq_getElem hlt] using h
  refine ⟨?_, ?_, ?_⟩
  · show (w.heap.modify b _)[b]? = _
    rw [Array.getElem?_eq_getElem (by simpa using hlt), Array.getElem_modify_self, h']; rfl
  · show (w.heap.modify b _)[b]? = _
    rw [Array.getElem?_eq_getElem (by simpa using hlt), Array.getElem_modify_self, h']; rfl
  · show (w.heap.modify b _)[b]? = _
    rw [Array.getElem?_eq_getElem (by simpa using hlt), Array.getElem_modify_self, h']; rfl
/-- The name is set. -/
theorem B7At.name {w : World} {b : Nat} {hd : ByteArray} {st : Sst} {tp : Value} {kp : Option Addr} {kl kc : Nat} {A : Nat → Nat} (h : B7At w b hd st tp kp kl kc A) (s : ByteArray) :
    B7At (w.setCell ⟨b, 2, none⟩ (.string s)) b hd ⟨s, st.ty, st.ks⟩ tp kp kl kc A := by
  have hset : ∀ k, b + 1 ≤ k → (w.setCell ⟨b, 2, none⟩ (.string s)).heap[k]? = w.heap[k]? := fun k hk => Below.heap_setCell _ _ _ _ (by show k ≠ b; omega)
  exact ⟨(set_five h.heap).1, h.typ.keep (fun x hx _ => hset x hx.1) (fun _ hx _ => hx), ownsRow_setCell_below h.kids (by show b < b + 1; omega) _, h.hkl, fun i k hik => (h.nodes i k hik).keep (fun x hx _ => hset x hx.1) (fun _ hx _ => hx)⟩
/-- The type is set. -/
theorem B7At.type {w : World} {b : Nat} {hd : ByteArray} {st : Sst} {tp : Value} {kp : Option Addr} {kl kc : Nat} {A : Nat → Nat} (h : B7At w b hd st tp kp kl kc A) {s : STy} {a : Nat} (hs : SIn w (fun x => b + 1 ≤ x ∧ (Value.slice kp kl kc).ownBlock ≠ some x) s a) :
    B7At (w.setCell ⟨b, 3, none⟩ (.pointer (some ⟨a, 0, none⟩))) b hd ⟨st.nm, some s, st.ks⟩ (.pointer (some ⟨a, 0, none⟩)) kp kl kc A := by
  have hset : ∀ k, b + 1 ≤ k → (w.setCell ⟨b, 3, none⟩ (.pointer (some ⟨a, 0, none⟩))).heap[k]? = w.heap[k]? := fun k hk => Below.heap_setCell _ _ _ _ (by show k ≠ b; omega)
  exact ⟨(set_five h.heap).2.1, ⟨a, rfl, hs.keep (fun x hx _ => hset x hx.1) (fun _ hx _ => hx)⟩, ownsRow_setCell_below h.kids (by show b < b + 1; omega) _, h.hkl, fun i k hik => (h.nodes i k hik).keep (fun x hx _ => hset x hx.1) (fun _ hx _ => hx)⟩
/-- One more part. -/
theorem B7At.kid {w w2 : World} {b a : Nat} {hd : ByteArray} {m : Sx} {st : Sst} {tp : Value} {kp kp' : Option Addr} {kl kc kc' : Nat} {A : Nat → Nat} (h : B7At w b hd st tp kp kl kc A)
    (hn : XIn w (fun x => b + 1 ≤ x ∧ (Value.slice kp kl kc).ownBlock ≠ some x) m a)
    (hown : w2.ownsRow (b + 1) 37 1 (.slice kp' (kl + 1) kc') (kl + 1) (ptrs A kl ++ [.pointer (some ⟨a, 0, none⟩)])) (hg : w.grownBy w2 (Value.slice kp kl kc).ownBlock)
    (hw : (Value.slice kp' (kl + 1) kc').ownBlock = (Value.slice kp kl kc).ownBlock ∨ (Value.slice kp' (kl + 1) kc').ownBlock = some w.heap.size) :
    B7At (w2.setCell ⟨b, 4, none⟩ (.slice kp' (kl + 1) kc')) b hd ⟨st.nm, st.ty, st.ks ++ [m]⟩ tp kp' (kl + 1) kc' (fun i => if i = kl then a else A i) := by
  have hko : (Value.slice kp kl kc).ownBlock ≠ some b := fun e => by have := (h.kids.lt b e).1; omega
  have hb2 := block_grown h.heap hg hko
  have hset : ∀ k, b + 1 ≤ k → (w2.setCell ⟨b, 4, none⟩ (.slice kp' (kl + 1) kc')).heap[k]? = w2.heap[k]? := fun k hk => Below.heap_setCell _ _ _ _ (by show k ≠ b; omega)
  have hk1 : ∀ y, (b + 1 ≤ y ∧ (Value.slice kp kl kc).ownBlock ≠ some y) → y < w.heap.size → (w2.setCell ⟨b, 4, none⟩ (.slice kp' (kl + 1) kc')).heap[y]? = w.heap[y]? := by
    intro y hy hl
    rw [hset y hy.1]; exact hg.block y hl (fun e => hy.2 e.symm)
  have hk2 : ∀ y, (b + 1 ≤ y ∧ (Value.slice kp kl kc).ownBlock ≠ some y) → y < w.heap.size → (b + 1 ≤ y ∧ (Value.slice kp' (kl + 1) kc').ownBlock ≠ some y) := by
    intro y hy hl
    refine ⟨hy.1, ?_⟩
    rcases hw with e | e
    · rw [e]; exact hy.2
    · rw [e]; intro e2; have := Option.some.inj e2; omega
  refine ⟨(set_five hb2).2.2, h.typ.keep hk1 hk2, ?_, by simp [h.hkl], ?_⟩
  · rw [ptrs_snoc]; exact ownsRow_setCell_below hown (by show b < b + 1; omega) _
  · intro i k hik
    by_cases hi : i < st.ks.length
    · rw [List.getElem?_append_left hi] at hik
      have : (if i = kl then a else A i) = A i := if_neg (by have := h.hkl; omega)
      rw [this]; exact (h.nodes i k hik).keep hk1 hk2
    · have hi2 : i = st.ks.length := by
        have := (List.getElem?_eq_some_iff.1 hik).1
        simp at this; omega
      subst hi2
      simp at hik; subst hik
      have : (if st.ks.length = kl then a else A st.ks.length) = a := if_pos h.hkl
      rw [this]; exact hn.keep hk1 hk2
theorem toList_inj {a b : ByteArray} (h : a.toList = b.toList) : a = b := by
  exact (bytes_of_toList h).trans (bytes_of_toList (a := b) rfl).symm
/-- A finished expression. -/
theorem B7At.done {w : World} {b : Nat} {hd : ByteArray} {st : Sst} {tp : Value} {kp : Option Addr} {kl kc : Nat} {A : Nat → Nat} (h : B7At w b hd st tp kp kl kc A) {e : Sx}
    (e1 : e.head.toList = hd.toList) (e2 : e.atom = ByteArray.empty) (e3 : e.nm = st.nm) (e4 : e.ty = st.ty) (e5 : e.kids = st.ks) : XIn w (fun k => b ≤ k) e b := by
  refine .mk e b tp kp kl kc A (Nat.le_refl _) (by rw [toList_inj e1, e2, e3]; exact h.heap) (by rw [e4]; exact h.typ.keep (fun _ _ _ => rfl) (fun x hx _ => by omega)) (by rw [e5]; exact h.hkl) (own_cap h.kids) ?_ (fun i k hik => by rw [e5] at hik; exact (h.nodes i k hik).keep (fun _ _ _ => rfl) (fun x hx _ => by omega))
  intro i v hv
  rcases h.kids.2 with ⟨hv2, hn⟩ | ⟨g, cap, cur, hv2, hbg, _⟩
  · have := (List.getElem?_eq_some_iff.1 hv).1
    rw [ptrs_length] at this; omega
  · obtain ⟨rfl, _⟩ : kp = some ⟨g, 0, none⟩ ∧ kc = cap := by simp at hv2; exact hv2
    have hc := h.kids.cells (g := g) rfl i v hv
    have hadd : (⟨g, 0, none⟩ : Addr).add i = ⟨g, i, none⟩ := by unfold Addr.add; split <;> simp_all
    rw [hadd] at hc
    exact ⟨g, rfl, by omega, hc⟩
theorem B7.done {w : World} {b B : Nat} {hd : ByteArray} {st : Sst} (h : B7 w b hd st) (hB : B ≤ b) {e : Sx} (e1 : e.head.toList = hd.toList) (e2 : e.atom = ByteArray.empty) (e3 : e.nm = st.nm) (e4 : e.ty = st.ty) (e5 : e.kids = st.ks) : XIn w (fun k => B ≤ k) e b := by
  obtain ⟨tp, kp, kl, kc, A, H⟩ := h
  exact (H.done e1 e2 e3 e4 e5).wide (fun k hk => by omega)

theorem pair_alloc5 {w : World} {b : Nat} {o1 : Obj} (h : w.heap[b]? = some o1) (o : Obj) : (w.alloc o).heap[b]? = some o1 := (heap_alloc_old w o (lt_of_block h)).trans h
/-- What adding a part leaves. -/
def P7Post (o : Option Sst) (b : Nat) (hd : ByteArray) (w : World) (e : Ending) (w' : World) : Prop :=
  Below b w w' ∧ match o with
    | some st => e = .returned (.bool true) ∧ B7 w' b hd st
    | none => e = .returned (.bool false)
theorem P7Post.none {b : Nat} {hd : ByteArray} {w w' : World} {e : Ending} (h : P7Post Option.none b hd w e w') : e = .returned (.bool false) ∧ Below b w w' := ⟨h.2, h.1⟩
theorem P7Post.some {b : Nat} {hd : ByteArray} {w w' : World} {e : Ending} {st : Sst} (h : P7Post (Option.some st) b hd w e w') : e = .returned (.bool true) ∧ Below b w w' ∧ B7 w' b hd st := ⟨h.2.1, h.1, h.2.2⟩
/-- What sourceOf leaves. -/
def X7Post (o : Option Sx) (w : World) (e : Ending) (w' : World) : Prop :=
  Below w.heap.size w w' ∧ match o with
    | some m => ∃ a : Nat, e = .returned (.tuple #[.pointer (some ⟨a, 0, none⟩), .bool true]) ∧ XIn w' (fun k => w.heap.size ≤ k) m a
    | none => ∃ p, e = .returned (.tuple #[.pointer p, .bool false])
theorem X7Post.none {w w' : World} {e : Ending} (h : X7Post Option.none w e w') : ∃ p, e = .returned (.tuple #[.pointer p, .bool false]) ∧ Below w.heap.size w w' := let ⟨hb, p, he⟩ := h; ⟨p, he, hb⟩
theorem X7Post.some {w w' : World} {e : Ending} {m : Sx} (h : X7Post (Option.some m) w e w') : ∃ a : Nat, e = .returned (.tuple #[.pointer (Option.some ⟨a, 0, Option.none⟩), .bool true]) ∧ Below w.heap.size w w' ∧ XIn w' (fun k => w.heap.size ≤ k) m a :=
  let ⟨hb, a, he, hn⟩ := h; ⟨a, he, hb, hn⟩
theorem x7_none {w w' : World} {p : Option Addr} (h : Below w.heap.size w w') : X7Post none w (.returned (.tuple #[.pointer p, .bool false])) w' := ⟨h, p, rfl⟩
theorem x7_some {w w' : World} {m : Sx} {a : Nat} (h : Below w.heap.size w w') (hn : XIn w' (fun k => w.heap.size ≤ k) m a) : X7Post (some m) w (.returned (.tuple #[.pointer (some ⟨a, 0, none⟩), .bool true])) w' := ⟨h, a, rfl, hn⟩
end Go.Proofs.YtgogoekfidbpdaaDoor
