/- Merged: MvD. -/
import Derived.Test.YtmjhfekcbagibaaGreatDoorEVSMvC
namespace Go.Proofs.YtmjhfekcbagibaaGreatDoor
open Go.RowKit

theorem ne_some {a b : Nat} (h : a ≠ b) : (some a : Option Nat) ≠ some b := fun e => h (Option.some.inj e)
theorem mv_done {S : Nat → Prop} {w0 w w' : World} {rb : Nat} {r : R7} {v : Sv} {x0 x1 x2 x3 x4 x5 x6 : Value} (hg : w.grownBy w' (some rb)) (hr : MRun w' rb r) (hm : MvIn (fun k => S k ∨ w.heap.size ≤ k) w0 w' v [x0, x1, x2, x3, x4, x5, x6]) :
    MvPost S w0 rb (some v, r) w (.returned (.tuple #[.agg #[x0, x1, x2, x3, x4, x5, x6], .bool true])) w' := ⟨hg, hr, _, rfl, hm⟩
theorem row_two {w : World} {g : Nat} {xs ys : List Value} {t : TypeId} (h : w.heap[g]? = some (.cells (xs ++ ys).toArray t (0, 0))) (hl : xs.length = 7) :
    (∀ j u, xs[j]? = some u → w.cell? ⟨g, 0 * 7 + j, none⟩ = some u) ∧ (∀ j u, ys[j]? = some u → w.cell? ⟨g, 1 * 7 + j, none⟩ = some u) := by
  have hc : ∀ i, w.cell? ⟨g, i, none⟩ = (xs ++ ys)[i]? := fun i => by simp [World.cell?, h]
  refine ⟨fun j u hj => ?_, fun j u hj => ?_⟩
  · rw [hc, Nat.zero_mul, Nat.zero_add, List.getElem?_append_left (List.getElem?_eq_some_iff.1 hj).1]; exact hj
  · rw [hc, List.getElem?_append_right (by omega)]
    rw [show 1 * 7 + j - xs.length = j by omega]; exact hj
theorem mv_pair_done {S S3 : Nat → Prop} {w0 w w4 : World} {rb b : Nat} {r2 : R7} {v u : Sv} {x0 x1 x2 x3 x4 x5 x6 y0 y1 y2 y3 y4 y5 y6 k0 k1 k2 k3 k4 k5 k6 : Value} {o2 : Obj} {t : TypeId} (hg : w.grownBy w4 (some rb)) (hr : MRun w4 rb r2) (hne : rb ≠ b) (hb : w.heap.size ≤ b)
    (ha : MvIn S3 w0 w4 v [x0, x1, x2, x3, x4, x5, x6]) (hu : MvIn S3 w0 w4 u [y0, y1, y2, y3, y4, y5, y6]) (hs : ∀ k, S3 k → k ≠ b ∧ (S k ∨ w.heap.size ≤ k)) :
    MvPost S w0 rb (some (.pair v u), r2) w (.returned (.tuple #[.agg #[.string ({ data := #[112, 97, 105, 114] } : ByteArray), .int .i64 0, .slice (some ⟨w4.heap.size + 1, 0, none⟩) 2 2, .string ({ data := #[] } : ByteArray), .slice none 0 0, .slice none 0 0, .slice none 0 0], .bool true]))
      (((((((((w4.setCell ⟨b, 0, none⟩ k0).setCell ⟨b, 1, none⟩ k1).setCell ⟨b, 2, none⟩ k2).setCell ⟨b, 3, none⟩ k3).setCell ⟨b, 4, none⟩ k4).setCell ⟨b, 5, none⟩ k5).setCell ⟨b, 6, none⟩ k6).alloc o2).alloc (.cells #[x0, x1, x2, x3, x4, x5, x6, y0, y1, y2, y3, y4, y5, y6] t)) := by
  obtain ⟨w5, h5⟩ : ∃ w5, w5 = (((((((w4.setCell ⟨b, 0, none⟩ k0).setCell ⟨b, 1, none⟩ k1).setCell ⟨b, 2, none⟩ k2).setCell ⟨b, 3, none⟩ k3).setCell ⟨b, 4, none⟩ k4).setCell ⟨b, 5, none⟩ k5).setCell ⟨b, 6, none⟩ k6) := ⟨_, rfl⟩
  have hg5 : w.grownBy w5 (some rb) := by rw [h5]; exact set7_grown hg hb _ _ _ _ _ _ _
  have hk5 : ∀ k, k ≠ b → w5.heap[k]? = w4.heap[k]? := fun k hk => by rw [h5]; exact set7_ne hk _ _ _ _ _ _ _
  have hz5 : w5.heap.size = w4.heap.size := by rw [h5]; simp
  have hr5 : MRun w5 rb r2 := (hk5 rb hne).trans hr
  rw [← h5]
  have h2 := two_grown w5 rb o2 (.cells #[x0, x1, x2, x3, x4, x5, x6, y0, y1, y2, y3, y4, y5, y6] t)
  have hsk : SKept S3 (fun k => S k ∨ w.heap.size ≤ k) w4 ((w5.alloc o2).alloc (.cells #[x0, x1, x2, x3, x4, x5, x6, y0, y1, y2, y3, y4, y5, y6] t)) :=
    ⟨fun k hk hl => ((heap_alloc_old _ _ (by simp; omega)).trans (heap_alloc_old _ _ (by omega))).trans (hk5 k (hs k hk).1), fun k hk _ => (hs k hk).2, by simp; omega⟩
  have hrow := row_two (w := (w5.alloc o2).alloc (.cells #[x0, x1, x2, x3, x4, x5, x6, y0, y1, y2, y3, y4, y5, y6] t)) (g := w4.heap.size + 1) (xs := [x0, x1, x2, x3, x4, x5, x6]) (ys := [y0, y1, y2, y3, y4, y5, y6]) (t := t) (heap_new _ _ _ (by simp; omega)) rfl
  exact mv_done (grown_trans2 hg5 h2) (mrun_two hr5 _ _) (.pair v u _ _ _ 2 (.inr (by have := hg.size; omega)) rfl rfl hrow.1 hrow.2 (ha.keep hsk) (hu.keep hsk))

set_option maxRecDepth 100000 in
set_option maxHeartbeats 4000000 in
theorem mp_none2 {S : Nat → Prop} {w0 w : World} {rb n m bt : Nat} {fl : Bool} {np : Option Addr} {nl nc gv vc : Nat} (hnm : n = m + 1) (hf2 : n ≤ 1000000000) (hr : MRun w rb ⟨n, bt, fl⟩)  {tb tc : Nat} {hd : ByteArray} (hcell : w.cell? ⟨tb, 0, none⟩ = some (.string hd)) (hne : tb ≠ rb) {a1 : ByteArray} {p1 : Option Addr} {l1 k1 : Nat} (hc1 : w.cell? ⟨tb, 2, none⟩ = some (.string a1)) (hd1 : w.cell? ⟨tb, 3, none⟩ = some (.slice p1 l1 k1)) {a2 : ByteArray} {p2 : Option Addr} {l2 k2 : Nat} (hc2 : w.cell? ⟨tb, 4, none⟩ = some (.string a2)) (hd2 : w.cell? ⟨tb, 5, none⟩ = some (.slice p2 l2 k2)) (q0 : (hd.toList == [103, 101, 116]) = false) (q1 : (hd.toList == [102, 97, 105, 108]) = false) (q2 : (hd.toList == [108, 97, 109]) = false) (q3 : (hd.toList == [105, 102]) = false) (q4 : (hd.toList == [102, 115, 116]) = false) (q5 : (hd.toList == [115, 110, 100]) = false) (q6 : (hd.toList == [112, 117, 116]) = false) {r1 r2 : R7} {v : Sv} (H2 : ∀ W, w.grownBy W (some rb) → MRun W rb r1 → Calls Tryz.prog 7 #[.pointer (some ⟨rb, 0, none⟩), .agg #[.string a2, .slice p2 l2 k2], .slice np nl nc, .slice (some ⟨gv, 0, none⟩) nl vc] W (MvPost S w0 rb (none, r2) W))
    (H1 : ∀ W, w.grownBy W (some rb) → MRun W rb ⟨m, bt, fl⟩ → Calls Tryz.prog 7 #[.pointer (some ⟨rb, 0, none⟩), .agg #[.string a1, .slice p1 l1 k1], .slice np nl nc, .slice (some ⟨gv, 0, none⟩) nl vc] W (MvPost S w0 rb (some v, r1) W)) :
    Calls Tryz.prog 7 #[.pointer (some ⟨rb, 0, none⟩), .agg #[.string ByteArray.empty, .slice (some ⟨tb, 0, none⟩) 3 tc], .slice np nl nc, .slice (some ⟨gv, 0, none⟩) nl vc] w (MvPost S w0 rb (none, r2) w) := by
  have hrl := lt_of_block hr
  have hn0 : ((n : Int) == 0) = false := by simp; omega
  have hs : IntKind.i64.wrap ((n : Int) - 1) = (m : Int) := by rw [IntWalk.i64_in _ (by omega)]; omega
  obtain ⟨W1, hW1⟩ : ∃ W1, W1 = (w.alloc (.cells #[.string ByteArray.empty, .slice (some ⟨tb, 0, none⟩) 3 tc] 27)).alloc (.cells #[.string ({ data := #[] } : ByteArray), .int .i64 0, .slice none 0 0, .string ({ data := #[] } : ByteArray), .slice none 0 0, .slice none 0 0, .slice none 0 0] 34) := ⟨_, rfl⟩
  have hr1 : MRun W1 rb ⟨n, bt, fl⟩ := by rw [hW1]; exact mrun_two hr _ _
  obtain ⟨c0, c1, c2, d0, d1, d2⟩ := mrun_cells hr1
  simp only at c0 c1 c2
  obtain ⟨W0, hW0⟩ : ∃ W0, W0 = w.setCell ⟨rb, 0, none⟩ (.int .i64 (m : Int)) := ⟨_, rfl⟩
  have hr0 : MRun W0 rb ⟨m, bt, fl⟩ := by rw [hW0]; exact (mrun_set hr).1 m
  have hg0 : w.grownBy W0 (some rb) := by rw [hW0]; exact setCell_grown _
  have hz0 : W0.heap.size = w.heap.size := by rw [hW0]; simp
  obtain ⟨W2, hW2⟩ : ∃ W2, W2 = (W0.alloc (.cells #[.string ByteArray.empty, .slice (some ⟨tb, 0, none⟩) 3 tc] 27)).alloc (.cells #[.string ({ data := #[] } : ByteArray), .int .i64 0, .slice none 0 0, .string ({ data := #[] } : ByteArray), .slice none 0 0, .slice none 0 0, .slice none 0 0] 34) := ⟨_, rfl⟩
  have hr2 : MRun W2 rb ⟨m, bt, fl⟩ := by rw [hW2]; exact mrun_two hr0 _ _
  have hg2 : w.grownBy W2 (some rb) := by rw [hW2]; exact grown_trans2 hg0 (two_grown W0 rb _ _)
  have hz2 : W2.heap.size = w.heap.size + 2 := by rw [hW2, ← hz0]; simp
  obtain ⟨e0, e1, e2, f0, f1, f2⟩ := mrun_cells hr2
  simp only at e0 e1 e2
  have hbx : W2.heap[w.heap.size]? = some (.cells #[.string ByteArray.empty, .slice (some ⟨tb, 0, none⟩) 3 tc] 27 (0, 0)) := by
    rw [hW2, heap_alloc_old _ _ (by simp; omega)]; exact heap_new W0 _ _ hz0.symm
  have hrs : W2.heap[w.heap.size + 1]? = some (.cells #[.string ({ data := #[] } : ByteArray), .int .i64 0, .slice none 0 0, .string ({ data := #[] } : ByteArray), .slice none 0 0, .slice none 0 0, .slice none 0 0] 34 (0, 0)) := by
    rw [hW2]; exact heap_new _ _ _ (by simp; omega)
  obtain ⟨b0, b1, _⟩ := cells_of_pair hbx
  obtain ⟨⟨z0, z1, z2, z3, z4, z5, z6⟩, y0, y1, y2, y3, y4, y5, y6⟩ := cells_of_7 hrs
  have kh := off_cell2 hg2 hne hcell
  have kc1 := off_cell2 hg2 hne hc1
  have kd1 := off_cell2 hg2 hne hd1
  have kc2 := off_cell2 hg2 hne hc2
  have kd2 := off_cell2 hg2 hne hd2
  have HCL := hid ((H1 W2 hg2 hr2).mono fun e w4 h => mvPost_some h hz2)
  have HG2 := hid hg2
  have HZ2 := hid hz2
  have HK3 := hid (fun (W : World) (h : W2.grownBy W (some rb)) => (show W.heap[w.heap.size + 1]? = some (.cells #[.string ({ data := #[] } : ByteArray), .int .i64 0, .slice none 0 0, .string ({ data := #[] } : ByteArray), .slice none 0 0, .slice none 0 0, .slice none 0 0] 34 (0, 0)) ∧ W.cell? ⟨tb, 0, none⟩ = some (.string hd) ∧ W.cell? ⟨tb, 2, none⟩ = some (.string a1) ∧ W.cell? ⟨tb, 3, none⟩ = some (.slice p1 l1 k1) ∧ W.cell? ⟨tb, 4, none⟩ = some (.string a2) ∧ W.cell? ⟨tb, 5, none⟩ = some (.slice p2 l2 k2) ∧ w.heap.size + 1 < W.heap.size ∧ tb < W.heap.size ∧ Hid (w.grownBy W (some rb)) from
    ⟨(h.block _ (by omega) (fun e => by have : w.heap.size + 1 = rb := by first | exact Option.some.inj e | exact (Option.some.inj e).symm
                                        omega)).trans hrs, off_cell2 h hne kh, off_cell2 h hne kc1, off_cell2 h hne kd1, off_cell2 h hne kc2, off_cell2 h hne kd2, by have := h.size; omega, World.block_lt_of_cell? W _ (off_cell2 h hne kh), hid (grown_trans2 hg2 h)⟩))
  have hhd := trivial
  have HC2 := hid H2
  clear H2
  clear hr hr1 hr0 hg0 hz0 hr2 hg2 hz2 hbx hrs hnm hcell hc1 hd1 hc2 hd2 H1 hhd
  rw [hW2, hW0] at e0 e1 e2 f0 f1 f2 b0 b1 z0 z1 z2 z3 z4 z5 z6 y0 y1 y2 y3 y4 y5 y6 kh kc1 kd1 kc2 kd2 HCL HK3
  rw [hW1] at c0 c1 c2 d0 d1 d2
  have HW2 := hid hW2
  have HW0 := hid hW0
  clear hW2 hW1 hW0
  go_enter Tryz.func7, Tryz.ntmps7
  go_wp2_with (first
    | (have _ := HG3; go_at_call 7; refine (HC2.out _ (grown_below hgw3.out ((Below.refl _ _).alloc (Nat.le_refl _) _) hgw3.out.size) (mrun_below HR3.out ((Below.refl _ _).alloc (Nat.le_refl _) _) hrl3)).mono ?_; rintro e w4 ⟨hg4x, hr4, kkb, nnb, ppb, plb, pcb, fab, fpb, fl2b, fcb, np2b, nl2b, nc2b, vpb, vlb, vc2b, rfl⟩; have hg4 := grown_trans2 (grown_below HG3.out ((Below.refl _ _).alloc (Nat.le_refl _) _) HG3.out.size) hg4x; clear hg4x; obtain ⟨hrs4, jh, jc1, jd1, jc2, jd2, hz4, htb4, hgw4⟩ := HK3.out _ hg4; obtain ⟨⟨v0, v1, v2, v3, v4, v5, v6⟩, o0, o1, o2, o3, o4, o5, o6⟩ := cells_of_7 hrs4; obtain ⟨j0, j1, j2, jf0, jf1, jf2⟩ := mrun_cells hr4; have HR4 := hid hr4; have HG4 := hid hg4; have hrl4 := lt_of_block hr4; clear hrs4 hr4 hg4)
    | (go_at_call 7; refine HCL.out.mono ?_; rintro e w3 ⟨cs, rfl, hg3, hr3, hm3⟩; obtain ⟨kk, nn, pp, pl, pc, fa, fp, fl2, fc, np2, nl2, nc2, vp, vl, vc2, rfl⟩ := hm3.seven; have HM3 := hid hm3; clear hm3; obtain ⟨hrs3, gh, gc1, gd1, gc2, gd2, hz3, htb3, hgw3⟩ := HK3.out _ hg3; obtain ⟨⟨t0, t1, t2, t3, t4, t5, t6⟩, s0, s1, s2, s3, s4, s5, s6⟩ := cells_of_7 hrs3; obtain ⟨g0, g1, g2, gf0, gf1, gf2⟩ := mrun_cells hr3; have HR3 := hid hr3; have HG3 := hid hg3; have hrl3 := lt_of_block hr3; clear hrs3 hr3 hg3))
  refine bodyPost_ret (v := .tuple #[.agg #[.string kkb, .int .i64 nnb, .slice ppb plb pcb, .string fab, .slice fpb fl2b fcb, .slice np2b nl2b nc2b, .slice vpb vlb vc2b], .bool false]) (by simp [results, Tryz.results7, go_sem, hz4, v0, v1, v2, v3, v4, v5, v6]) rfl ?_
  exact (mv_close0 hgw4.out HR4.out (by omega) (by omega)).alloc _

set_option maxRecDepth 100000 in
set_option maxHeartbeats 4000000 in
theorem mp_pair {S : Nat → Prop} {w0 w : World} {rb n m bt : Nat} {fl : Bool} {np : Option Addr} {nl nc gv vc : Nat} (hnm : n = m + 1) (hf2 : n ≤ 1000000000) (hr : MRun w rb ⟨n, bt, fl⟩) (hS : ∀ k, S k → k ≠ rb ∧ k < w.heap.size) {tb tc : Nat} {hd : ByteArray} (hcell : w.cell? ⟨tb, 0, none⟩ = some (.string hd)) (hne : tb ≠ rb) {a1 : ByteArray} {p1 : Option Addr} {l1 k1 : Nat} (hc1 : w.cell? ⟨tb, 2, none⟩ = some (.string a1)) (hd1 : w.cell? ⟨tb, 3, none⟩ = some (.slice p1 l1 k1)) {a2 : ByteArray} {p2 : Option Addr} {l2 k2 : Nat} (hc2 : w.cell? ⟨tb, 4, none⟩ = some (.string a2)) (hd2 : w.cell? ⟨tb, 5, none⟩ = some (.slice p2 l2 k2)) (hhd : hd.toList = [112, 97, 105, 114]) {r1 r2 : R7} {v u : Sv} (H2 : ∀ W, w.grownBy W (some rb) → MRun W rb r1 → Calls Tryz.prog 7 #[.pointer (some ⟨rb, 0, none⟩), .agg #[.string a2, .slice p2 l2 k2], .slice np nl nc, .slice (some ⟨gv, 0, none⟩) nl vc] W (MvPost S w0 rb (some u, r2) W))
    (H1 : ∀ W, w.grownBy W (some rb) → MRun W rb ⟨m, bt, fl⟩ → Calls Tryz.prog 7 #[.pointer (some ⟨rb, 0, none⟩), .agg #[.string a1, .slice p1 l1 k1], .slice np nl nc, .slice (some ⟨gv, 0, none⟩) nl vc] W (MvPost S w0 rb (some v, r1) W)) :
    Calls Tryz.prog 7 #[.pointer (some ⟨rb, 0, none⟩), .agg #[.string ByteArray.empty, .slice (some ⟨tb, 0, none⟩) 3 tc], .slice np nl nc, .slice (some ⟨gv, 0, none⟩) nl vc] w (MvPost S w0 rb (some (.pair v u), r2) w) := by
  have hrl := lt_of_block hr
  have hn0 : ((n : Int) == 0) = false := by simp; omega
  have hs : IntKind.i64.wrap ((n : Int) - 1) = (m : Int) := by rw [IntWalk.i64_in _ (by omega)]; omega
  obtain ⟨W1, hW1⟩ : ∃ W1, W1 = (w.alloc (.cells #[.string ByteArray.empty, .slice (some ⟨tb, 0, none⟩) 3 tc] 27)).alloc (.cells #[.string ({ data := #[] } : ByteArray), .int .i64 0, .slice none 0 0, .string ({ data := #[] } : ByteArray), .slice none 0 0, .slice none 0 0, .slice none 0 0] 34) := ⟨_, rfl⟩
  have hr1 : MRun W1 rb ⟨n, bt, fl⟩ := by rw [hW1]; exact mrun_two hr _ _
  obtain ⟨c0, c1, c2, d0, d1, d2⟩ := mrun_cells hr1
  simp only at c0 c1 c2
  obtain ⟨W0, hW0⟩ : ∃ W0, W0 = w.setCell ⟨rb, 0, none⟩ (.int .i64 (m : Int)) := ⟨_, rfl⟩
  have hr0 : MRun W0 rb ⟨m, bt, fl⟩ := by rw [hW0]; exact (mrun_set hr).1 m
  have hg0 : w.grownBy W0 (some rb) := by rw [hW0]; exact setCell_grown _
  have hz0 : W0.heap.size = w.heap.size := by rw [hW0]; simp
  obtain ⟨W2, hW2⟩ : ∃ W2, W2 = (W0.alloc (.cells #[.string ByteArray.empty, .slice (some ⟨tb, 0, none⟩) 3 tc] 27)).alloc (.cells #[.string ({ data := #[] } : ByteArray), .int .i64 0, .slice none 0 0, .string ({ data := #[] } : ByteArray), .slice none 0 0, .slice none 0 0, .slice none 0 0] 34) := ⟨_, rfl⟩
  have hr2 : MRun W2 rb ⟨m, bt, fl⟩ := by rw [hW2]; exact mrun_two hr0 _ _
  have hg2 : w.grownBy W2 (some rb) := by rw [hW2]; exact grown_trans2 hg0 (two_grown W0 rb _ _)
  have hz2 : W2.heap.size = w.heap.size + 2 := by rw [hW2, ← hz0]; simp
  obtain ⟨e0, e1, e2, f0, f1, f2⟩ := mrun_cells hr2
  simp only at e0 e1 e2
  have hbx : W2.heap[w.heap.size]? = some (.cells #[.string ByteArray.empty, .slice (some ⟨tb, 0, none⟩) 3 tc] 27 (0, 0)) := by
    rw [hW2, heap_alloc_old _ _ (by simp; omega)]; exact heap_new W0 _ _ hz0.symm
  have hrs : W2.heap[w.heap.size + 1]? = some (.cells #[.string ({ data := #[] } : ByteArray), .int .i64 0, .slice none 0 0, .string ({ data := #[] } : ByteArray), .slice none 0 0, .slice none 0 0, .slice none 0 0] 34 (0, 0)) := by
    rw [hW2]; exact heap_new _ _ _ (by simp; omega)
  obtain ⟨b0, b1, _⟩ := cells_of_pair hbx
  obtain ⟨⟨z0, z1, z2, z3, z4, z5, z6⟩, y0, y1, y2, y3, y4, y5, y6⟩ := cells_of_7 hrs
  have kh := off_cell2 hg2 hne hcell
  have kc1 := off_cell2 hg2 hne hc1
  have kd1 := off_cell2 hg2 hne hd1
  have kc2 := off_cell2 hg2 hne hc2
  have kd2 := off_cell2 hg2 hne hd2
  have HCL := hid ((H1 W2 hg2 hr2).mono fun e w4 h => mvPost_some h hz2)
  have HG2 := hid hg2
  have HZ2 := hid hz2
  have HK3 := hid (fun (W : World) (h : W2.grownBy W (some rb)) => (show W.heap[w.heap.size + 1]? = some (.cells #[.string ({ data := #[] } : ByteArray), .int .i64 0, .slice none 0 0, .string ({ data := #[] } : ByteArray), .slice none 0 0, .slice none 0 0, .slice none 0 0] 34 (0, 0)) ∧ W.cell? ⟨tb, 0, none⟩ = some (.string hd) ∧ W.cell? ⟨tb, 2, none⟩ = some (.string a1) ∧ W.cell? ⟨tb, 3, none⟩ = some (.slice p1 l1 k1) ∧ W.cell? ⟨tb, 4, none⟩ = some (.string a2) ∧ W.cell? ⟨tb, 5, none⟩ = some (.slice p2 l2 k2) ∧ w.heap.size + 1 < W.heap.size ∧ tb < W.heap.size ∧ Hid (w.grownBy W (some rb)) from
    ⟨(h.block _ (by omega) (fun e => by have : w.heap.size + 1 = rb := by first | exact Option.some.inj e | exact (Option.some.inj e).symm
                                        omega)).trans hrs, off_cell2 h hne kh, off_cell2 h hne kc1, off_cell2 h hne kd1, off_cell2 h hne kc2, off_cell2 h hne kd2, by have := h.size; omega, World.block_lt_of_cell? W _ (off_cell2 h hne kh), hid (grown_trans2 hg2 h)⟩))
  have q0 : (hd.toList == [103, 101, 116]) = false := by rw [hhd]; rfl
  have q1 : (hd.toList == [102, 97, 105, 108]) = false := by rw [hhd]; rfl
  have q2 : (hd.toList == [108, 97, 109]) = false := by rw [hhd]; rfl
  have q3 : (hd.toList == [105, 102]) = false := by rw [hhd]; rfl
  have q4 : (hd.toList == [102, 115, 116]) = false := by rw [hhd]; rfl
  have q5 : (hd.toList == [115, 110, 100]) = false := by rw [hhd]; rfl
  have q6 : (hd.toList == [112, 117, 116]) = false := by rw [hhd]; rfl
  have q7 : (hd.toList == [112, 97, 105, 114]) = true := by rw [hhd]; rfl
  have HC2 := hid H2
  clear H2
  clear hr hr1 hr0 hg0 hz0 hr2 hg2 hz2 hbx hrs hnm hcell hc1 hd1 hc2 hd2 H1 hhd
  rw [hW2, hW0] at e0 e1 e2 f0 f1 f2 b0 b1 z0 z1 z2 z3 z4 z5 z6 y0 y1 y2 y3 y4 y5 y6 kh kc1 kd1 kc2 kd2 HCL HK3
  rw [hW1] at c0 c1 c2 d0 d1 d2
  have HW2 := hid hW2
  have HW0 := hid hW0
  clear hW2 hW1 hW0
  go_enter Tryz.func7, Tryz.ntmps7
  go_wp2_with (first
    | (have _ := HG3; go_at_call 7; refine (HC2.out _ (grown_below hgw3.out ((Below.refl _ _).alloc (Nat.le_refl _) _) hgw3.out.size) (mrun_below HR3.out ((Below.refl _ _).alloc (Nat.le_refl _) _) hrl3)).mono ?_; rintro e w4 hp; obtain ⟨csb, rfl, hg4x, hr4, hm4⟩ := mvPost_some hp rfl; obtain ⟨kkb, nnb, ppb, plb, pcb, fab, fpb, fl2b, fcb, np2b, nl2b, nc2b, vpb, vlb, vc2b, rfl⟩ := hm4.seven; have HM4 := hid hm4; have hz34 : w3.heap.size < w4.heap.size := (by have := hg4x.size; simp at this; omega); have hy4 : w.heap.size < w4.heap.size := (by omega); obtain ⟨⟨x0, x1, x2, x3, x4, x5, x6⟩, xx⟩ := cells_of_7 ((hg4x.block w3.heap.size (by simp) (ne_some (by omega))).trans (heap_new w3 (.cells #[.string kk, .int .i64 nn, .slice pp pl pc, .string fa, .slice fp fl2 fc, .slice np2 nl2 nc2, .slice vp vl vc2] 34) w3.heap.size rfl)); clear xx; have HG4X := hid hg4x; have hg4 := grown_trans2 (grown_below HG3.out ((Below.refl _ _).alloc (Nat.le_refl _) _) HG3.out.size) hg4x; clear hg4x hp hm4; obtain ⟨hrs4, jh, jc1, jd1, jc2, jd2, hz4, htb4, hgw4⟩ := HK3.out _ hg4; obtain ⟨⟨v0, v1, v2, v3, v4, v5, v6⟩, o0, o1, o2, o3, o4, o5, o6⟩ := cells_of_7 hrs4; obtain ⟨j0, j1, j2, jf0, jf1, jf2⟩ := mrun_cells hr4; have HR4 := hid hr4; have HG4 := hid hg4; have hrl4 := lt_of_block hr4; clear hrs4 hr4 hg4)
    | (go_at_call 7; refine HCL.out.mono ?_; rintro e w3 ⟨cs, rfl, hg3, hr3, hm3⟩; obtain ⟨kk, nn, pp, pl, pc, fa, fp, fl2, fc, np2, nl2, nc2, vp, vl, vc2, rfl⟩ := hm3.seven; have HM3 := hid hm3; clear hm3; obtain ⟨hrs3, gh, gc1, gd1, gc2, gd2, hz3, htb3, hgw3⟩ := HK3.out _ hg3; obtain ⟨⟨t0, t1, t2, t3, t4, t5, t6⟩, s0, s1, s2, s3, s4, s5, s6⟩ := cells_of_7 hrs3; obtain ⟨g0, g1, g2, gf0, gf1, gf2⟩ := mrun_cells hr3; have HR3 := hid hr3; have HG3 := hid hg3; have hrl3 := lt_of_block hr3; clear hrs3 hr3 hg3))
  refine bodyPost_ret (v := .tuple #[.agg #[.string ({ data := #[112, 97, 105, 114] } : ByteArray), .int .i64 0, .slice (some ⟨w4.heap.size + 1, 0, none⟩) 2 2, .string ({ data := #[] } : ByteArray), .slice none 0 0, .slice none 0 0, .slice none 0 0], .bool true]) (by simp [results, Tryz.results7, go_sem, hz4, hy4, v0, v1, v2, v3, v4, v5, v6]) rfl ?_
  refine mv_pair_done (S3 := fun k => S k ∨ w.heap.size + 2 ≤ k) hgw4.out HR4.out (by omega) (by omega) (HM3.out.keep ⟨fun k hk hl => (HG4X.out.block k (by simp; omega) (ne_some ?_)).trans (heap_alloc_old _ _ hl), fun _ h _ => h, by omega⟩) (HM4.out.keep ⟨fun _ _ _ => rfl, fun k hk _ => ?_, Nat.le_refl _⟩) (fun k hk => ?_)
  · rcases hk with hk | hk
    · exact (hS k hk).1
    · omega
  · rcases hk with hk | hk
    · exact .inl hk
    · exact .inr (by simp at hk; omega)
  · rcases hk with hk | hk
    · exact ⟨by have := (hS k hk).2; omega, .inl hk⟩
    · exact ⟨by omega, .inr (by omega)⟩
end Go.Proofs.YtmjhfekcbagibaaGreatDoor
