/- Merged: MvC. -/
import Derived.Test.YtmjhfekcbagibaaGreatDoorEVSMvB
namespace Go.Proofs.YtmjhfekcbagibaaGreatDoor
open Go.RowKit

theorem MvPost.alloc {S : Nat → Prop} {w0 w w' : World} {rb : Nat} {x : Option Sv × R7} {e : Ending} (h : MvPost S w0 rb x w e w') (o : Obj) : MvPost S w0 rb x w e (w'.alloc o) := by
  obtain ⟨h1, h2, h3⟩ := h
  have hb : Below w'.heap.size w' (w'.alloc o) := (Below.refl _ _).alloc (Nat.le_refl _) o
  refine ⟨grown_below h1 hb h1.size, mrun_below h2 hb (lt_of_block h2), ?_⟩
  obtain ⟨ov, r⟩ := x
  cases ov with
  | none => exact h3
  | some v =>
    obtain ⟨cs, e1, hm⟩ := h3
    exact ⟨cs, e1, hm.keep ⟨fun k _ hl => hb.block k hl, fun _ h _ => h, hb.size⟩⟩
theorem mvPost_some {S : Nat → Prop} {w0 w w' : World} {rb z : Nat} {v : Sv} {r : R7} {e : Ending} (h : MvPost S w0 rb (some v, r) w e w') (hz : w.heap.size = z) :
    ∃ cs, e = .returned (.tuple #[.agg cs.toArray, .bool true]) ∧ w.grownBy w' (some rb) ∧ MRun w' rb r ∧ MvIn (fun k => S k ∨ z ≤ k) w0 w' v cs := by
  obtain ⟨h1, h2, cs, e1, hm⟩ := h
  subst hz
  exact ⟨cs, e1, h1, h2, hm⟩
theorem mv_fst {S : Nat → Prop} {w0 w : World} {a b : Sv} {cs : List Value} (h : MvIn S w0 w (.pair a b) cs) : ∃ (g c : Nat) (kk : ByteArray) (nn : Int) (pp : Option Addr) (pl pc : Nat) (fa : ByteArray) (fp : Option Addr) (fl2 fc : Nat) (np2 : Option Addr) (nl2 nc2 : Nat) (vp : Option Addr) (vl vc2 : Nat), cs = [.string ({ data := #[112, 97, 105, 114] } : ByteArray), .int .i64 0, .slice (some ⟨g, 0, none⟩) 2 c, .string ByteArray.empty, .slice none 0 0, .slice none 0 0, .slice none 0 0] ∧ g < w.heap.size ∧ w.cell? ⟨g, 0, none⟩ = some (.string kk) ∧ w.cell? ⟨g, 1, none⟩ = some (.int .i64 nn) ∧ w.cell? ⟨g, 2, none⟩ = some (.slice pp pl pc) ∧ w.cell? ⟨g, 3, none⟩ = some (.string fa) ∧ w.cell? ⟨g, 4, none⟩ = some (.slice fp fl2 fc) ∧ w.cell? ⟨g, 5, none⟩ = some (.slice np2 nl2 nc2) ∧ w.cell? ⟨g, 6, none⟩ = some (.slice vp vl vc2) ∧ MvIn S w0 w a [.string kk, .int .i64 nn, .slice pp pl pc, .string fa, .slice fp fl2 fc, .slice np2 nl2 nc2, .slice vp vl vc2] := by
  cases h with
  | pair _ _ ca cb g c hg hla hlb hra hrb ha hb =>
    obtain ⟨kk, nn, pp, pl, pc, fa, fp, fl2, fc, np2, nl2, nc2, vp, vl, vc2, rfl⟩ := ha.seven
    exact ⟨g, c, kk, nn, pp, pl, pc, fa, fp, fl2, fc, np2, nl2, nc2, vp, vl, vc2, rfl, World.block_lt_of_cell? w _ (hra 0 _ rfl), hra 0 _ rfl, hra 1 _ rfl, hra 2 _ rfl, hra 3 _ rfl, hra 4 _ rfl, hra 5 _ rfl, hra 6 _ rfl, ha⟩
theorem mv_snd {S : Nat → Prop} {w0 w : World} {a b : Sv} {cs : List Value} (h : MvIn S w0 w (.pair a b) cs) : ∃ (g c : Nat) (kk : ByteArray) (nn : Int) (pp : Option Addr) (pl pc : Nat) (fa : ByteArray) (fp : Option Addr) (fl2 fc : Nat) (np2 : Option Addr) (nl2 nc2 : Nat) (vp : Option Addr) (vl vc2 : Nat), cs = [.string ({ data := #[112, 97, 105, 114] } : ByteArray), .int .i64 0, .slice (some ⟨g, 0, none⟩) 2 c, .string ByteArray.empty, .slice none 0 0, .slice none 0 0, .slice none 0 0] ∧ g < w.heap.size ∧ w.cell? ⟨g, 7, none⟩ = some (.string kk) ∧ w.cell? ⟨g, 8, none⟩ = some (.int .i64 nn) ∧ w.cell? ⟨g, 9, none⟩ = some (.slice pp pl pc) ∧ w.cell? ⟨g, 10, none⟩ = some (.string fa) ∧ w.cell? ⟨g, 11, none⟩ = some (.slice fp fl2 fc) ∧ w.cell? ⟨g, 12, none⟩ = some (.slice np2 nl2 nc2) ∧ w.cell? ⟨g, 13, none⟩ = some (.slice vp vl vc2) ∧ MvIn S w0 w b [.string kk, .int .i64 nn, .slice pp pl pc, .string fa, .slice fp fl2 fc, .slice np2 nl2 nc2, .slice vp vl vc2] := by
  cases h with
  | pair _ _ ca cb g c hg hla hlb hra hrb ha hb =>
    obtain ⟨kk, nn, pp, pl, pc, fa, fp, fl2, fc, np2, nl2, nc2, vp, vl, vc2, rfl⟩ := hb.seven
    exact ⟨g, c, kk, nn, pp, pl, pc, fa, fp, fl2, fc, np2, nl2, nc2, vp, vl, vc2, rfl, World.block_lt_of_cell? w _ (hrb 0 _ rfl), hrb 0 _ rfl, hrb 1 _ rfl, hrb 2 _ rfl, hrb 3 _ rfl, hrb 4 _ rfl, hrb 5 _ rfl, hrb 6 _ rfl, hb⟩
theorem mv_bit {S : Nat → Prop} {w0 w : World} {n : Nat} {cs : List Value} (h : MvIn S w0 w (.bit n) cs) : cs = [.string ({ data := #[98, 105, 116] } : ByteArray), .int .i64 (n : Int), .slice none 0 0, .string ByteArray.empty, .slice none 0 0, .slice none 0 0, .slice none 0 0] := by
  cases h; rfl
theorem mvPost_shape {S : Nat → Prop} {w0 w w' : World} {rb : Nat} {x : Option Sv × R7} {e : Ending} (h : MvPost S w0 rb x w e w') : ∃ (kk : ByteArray) (nn : Int) (pp : Option Addr) (pl pc : Nat) (fa : ByteArray) (fp : Option Addr) (fl2 fc : Nat) (np2 : Option Addr) (nl2 nc2 : Nat) (vp : Option Addr) (vl vc2 : Nat) (bb : Bool), e = .returned (.tuple #[.agg #[.string kk, .int .i64 nn, .slice pp pl pc, .string fa, .slice fp fl2 fc, .slice np2 nl2 nc2, .slice vp vl vc2], .bool bb]) ∧ MvPost S w0 rb x w (.returned (.tuple #[.agg #[.string kk, .int .i64 nn, .slice pp pl pc, .string fa, .slice fp fl2 fc, .slice np2 nl2 nc2, .slice vp vl vc2], .bool bb])) w' := by
  have hh := h
  obtain ⟨h1, h2, h3⟩ := h
  obtain ⟨o, r⟩ := x
  cases o with
  | none => obtain ⟨kk, nn, pp, pl, pc, fa, fp, fl2, fc, np2, nl2, nc2, vp, vl, vc2, rfl⟩ := h3; exact ⟨kk, nn, pp, pl, pc, fa, fp, fl2, fc, np2, nl2, nc2, vp, vl, vc2, false, rfl, hh⟩
  | some v =>
    obtain ⟨cs, rfl, hm⟩ := h3
    obtain ⟨kk, nn, pp, pl, pc, fa, fp, fl2, fc, np2, nl2, nc2, vp, vl, vc2, rfl⟩ := hm.seven
    exact ⟨kk, nn, pp, pl, pc, fa, fp, fl2, fc, np2, nl2, nc2, vp, vl, vc2, true, rfl, hh⟩
theorem mv_close_any {S : Nat → Prop} {w0 w W w4 : World} {rb b : Nat} {x : Option Sv × R7} {x0 x1 x2 x3 x4 x5 x6 : Value} {bb : Bool} (hgW : w.grownBy W (some rb)) (hp : MvPost S w0 rb x W (.returned (.tuple #[.agg #[x0, x1, x2, x3, x4, x5, x6], .bool bb])) w4) (hS : ∀ k, S k → k ≠ rb ∧ k < w.heap.size) (hne : rb ≠ b) (hb : w.heap.size ≤ b) (hbW : b < W.heap.size) :
    MvPost S w0 rb x w (.returned (.tuple #[.agg #[x0, x1, x2, x3, x4, x5, x6], .bool bb])) (((((((w4.setCell ⟨b, 0, none⟩ x0).setCell ⟨b, 1, none⟩ x1).setCell ⟨b, 2, none⟩ x2).setCell ⟨b, 3, none⟩ x3).setCell ⟨b, 4, none⟩ x4).setCell ⟨b, 5, none⟩ x5).setCell ⟨b, 6, none⟩ x6) := by
  obtain ⟨h1, h2, h3⟩ := hp
  have hg := grown_trans2 hgW h1
  refine ⟨set7_grown hg hb _ _ _ _ _ _ _, (set7_ne hne _ _ _ _ _ _ _).trans h2, ?_⟩
  obtain ⟨o, r⟩ := x
  cases o with
  | none => exact h3
  | some v =>
    obtain ⟨cs, e1, hm⟩ := h3
    refine ⟨cs, e1, hm.keep ⟨fun k hk _ => set7_ne ?_ _ _ _ _ _ _ _, fun k hk _ => ?_, by simp⟩⟩
    · rcases hk with hk | hk
      · have := (hS k hk).2; omega
      · omega
    · rcases hk with hk | hk
      · exact .inl hk
      · exact .inr (by have := hgW.size; omega)

set_option maxRecDepth 100000 in
set_option maxHeartbeats 4000000 in
theorem mp_none {S : Nat → Prop} {w0 w : World} {rb n m bt : Nat} {fl : Bool} {np : Option Addr} {nl nc gv vc : Nat} (hnm : n = m + 1) (hf2 : n ≤ 1000000000) (hr : MRun w rb ⟨n, bt, fl⟩)  {tb tc : Nat} {hd : ByteArray} (hcell : w.cell? ⟨tb, 0, none⟩ = some (.string hd)) (hne : tb ≠ rb) {a1 : ByteArray} {p1 : Option Addr} {l1 k1 : Nat} (hc1 : w.cell? ⟨tb, 2, none⟩ = some (.string a1)) (hd1 : w.cell? ⟨tb, 3, none⟩ = some (.slice p1 l1 k1)) {tl : Nat} (htl : 1 < tl) (q0 : (hd.toList == [103, 101, 116]) = false) (q1 : (hd.toList == [102, 97, 105, 108]) = false) (q2 : (hd.toList == [108, 97, 109]) = false) {r1 : R7}
    (H1 : ∀ W, w.grownBy W (some rb) → MRun W rb ⟨m, bt, fl⟩ → Calls Tryz.prog 7 #[.pointer (some ⟨rb, 0, none⟩), .agg #[.string a1, .slice p1 l1 k1], .slice np nl nc, .slice (some ⟨gv, 0, none⟩) nl vc] W (MvPost S w0 rb (none, r1) W)) :
    Calls Tryz.prog 7 #[.pointer (some ⟨rb, 0, none⟩), .agg #[.string ByteArray.empty, .slice (some ⟨tb, 0, none⟩) tl tc], .slice np nl nc, .slice (some ⟨gv, 0, none⟩) nl vc] w (MvPost S w0 rb (none, r1) w) := by
  have hrl := lt_of_block hr
  have hn0 : ((n : Int) == 0) = false := by simp; omega
  have hs : IntKind.i64.wrap ((n : Int) - 1) = (m : Int) := by rw [IntWalk.i64_in _ (by omega)]; omega
  obtain ⟨W1, hW1⟩ : ∃ W1, W1 = (w.alloc (.cells #[.string ByteArray.empty, .slice (some ⟨tb, 0, none⟩) tl tc] 27)).alloc (.cells #[.string ({ data := #[] } : ByteArray), .int .i64 0, .slice none 0 0, .string ({ data := #[] } : ByteArray), .slice none 0 0, .slice none 0 0, .slice none 0 0] 34) := ⟨_, rfl⟩
  have hr1 : MRun W1 rb ⟨n, bt, fl⟩ := by rw [hW1]; exact mrun_two hr _ _
  obtain ⟨c0, c1, c2, d0, d1, d2⟩ := mrun_cells hr1
  simp only at c0 c1 c2
  obtain ⟨W0, hW0⟩ : ∃ W0, W0 = w.setCell ⟨rb, 0, none⟩ (.int .i64 (m : Int)) := ⟨_, rfl⟩
  have hr0 : MRun W0 rb ⟨m, bt, fl⟩ := by rw [hW0]; exact (mrun_set hr).1 m
  have hg0 : w.grownBy W0 (some rb) := by rw [hW0]; exact setCell_grown _
  have hz0 : W0.heap.size = w.heap.size := by rw [hW0]; simp
  obtain ⟨W2, hW2⟩ : ∃ W2, W2 = (W0.alloc (.cells #[.string ByteArray.empty, .slice (some ⟨tb, 0, none⟩) tl tc] 27)).alloc (.cells #[.string ({ data := #[] } : ByteArray), .int .i64 0, .slice none 0 0, .string ({ data := #[] } : ByteArray), .slice none 0 0, .slice none 0 0, .slice none 0 0] 34) := ⟨_, rfl⟩
  have hr2 : MRun W2 rb ⟨m, bt, fl⟩ := by rw [hW2]; exact mrun_two hr0 _ _
  have hg2 : w.grownBy W2 (some rb) := by rw [hW2]; exact grown_trans2 hg0 (two_grown W0 rb _ _)
  have hz2 : W2.heap.size = w.heap.size + 2 := by rw [hW2, ← hz0]; simp
  obtain ⟨e0, e1, e2, f0, f1, f2⟩ := mrun_cells hr2
  simp only at e0 e1 e2
  have hbx : W2.heap[w.heap.size]? = some (.cells #[.string ByteArray.empty, .slice (some ⟨tb, 0, none⟩) tl tc] 27 (0, 0)) := by
    rw [hW2, heap_alloc_old _ _ (by simp; omega)]; exact heap_new W0 _ _ hz0.symm
  have hrs : W2.heap[w.heap.size + 1]? = some (.cells #[.string ({ data := #[] } : ByteArray), .int .i64 0, .slice none 0 0, .string ({ data := #[] } : ByteArray), .slice none 0 0, .slice none 0 0, .slice none 0 0] 34 (0, 0)) := by
    rw [hW2]; exact heap_new _ _ _ (by simp; omega)
  obtain ⟨b0, b1, _⟩ := cells_of_pair hbx
  obtain ⟨⟨z0, z1, z2, z3, z4, z5, z6⟩, y0, y1, y2, y3, y4, y5, y6⟩ := cells_of_7 hrs
  have kh := off_cell2 hg2 hne hcell
  have kc1 := off_cell2 hg2 hne hc1
  have kd1 := off_cell2 hg2 hne hd1
  have HCL := hid (H1 W2 hg2 hr2)
  have HG2 := hid hg2
  have HZ2 := hid hz2
  have HK3 := hid (fun (W : World) (h : W2.grownBy W (some rb)) => (show W.heap[w.heap.size + 1]? = some (.cells #[.string ({ data := #[] } : ByteArray), .int .i64 0, .slice none 0 0, .string ({ data := #[] } : ByteArray), .slice none 0 0, .slice none 0 0, .slice none 0 0] 34 (0, 0)) ∧ W.cell? ⟨tb, 0, none⟩ = some (.string hd) ∧ W.cell? ⟨tb, 2, none⟩ = some (.string a1) ∧ W.cell? ⟨tb, 3, none⟩ = some (.slice p1 l1 k1) ∧ w.heap.size + 1 < W.heap.size ∧ tb < W.heap.size ∧ Hid (w.grownBy W (some rb)) from
    ⟨(h.block _ (by omega) (fun e => by have : w.heap.size + 1 = rb := by first | exact Option.some.inj e | exact (Option.some.inj e).symm
                                        omega)).trans hrs, off_cell2 h hne kh, off_cell2 h hne kc1, off_cell2 h hne kd1, by have := h.size; omega, World.block_lt_of_cell? W _ (off_cell2 h hne kh), hid (grown_trans2 hg2 h)⟩))
  have hhd := trivial
  clear hr hr1 hr0 hg0 hz0 hr2 hg2 hz2 hbx hrs hnm hcell hc1 hd1 H1 hhd
  rw [hW2, hW0] at e0 e1 e2 f0 f1 f2 b0 b1 z0 z1 z2 z3 z4 z5 z6 y0 y1 y2 y3 y4 y5 y6 kh kc1 kd1 HCL HK3
  rw [hW1] at c0 c1 c2 d0 d1 d2
  have HW2 := hid hW2
  have HW0 := hid hW0
  clear hW2 hW1 hW0
  go_enter Tryz.func7, Tryz.ntmps7
  go_wp2_with (go_at_call 7; refine HCL.out.mono ?_; rintro e w3 ⟨hg3, hr3, kk, nn, pp, pl, pc, fa, fp, fl2, fc, np2, nl2, nc2, vp, vl, vc2, rfl⟩; obtain ⟨hrs3, gh, gc1, gd1, hz3, htb3, hgw3⟩ := HK3.out _ hg3; obtain ⟨⟨t0, t1, t2, t3, t4, t5, t6⟩, s0, s1, s2, s3, s4, s5, s6⟩ := cells_of_7 hrs3; obtain ⟨g0, g1, g2, gf0, gf1, gf2⟩ := mrun_cells hr3; have HR3 := hid hr3; have HG3 := hid hg3; have hrl3 := lt_of_block hr3; clear hrs3 hr3 hg3)
  refine bodyPost_ret (v := .tuple #[.agg #[.string kk, .int .i64 nn, .slice pp pl pc, .string fa, .slice fp fl2 fc, .slice np2 nl2 nc2, .slice vp vl vc2], .bool false]) (by simp [results, Tryz.results7, go_sem, hz3, t0, t1, t2, t3, t4, t5, t6]) rfl ?_
  exact (mv_close0 hgw3.out HR3.out (by omega) (by omega)).alloc _

set_option maxRecDepth 100000 in
set_option maxHeartbeats 4000000 in
theorem mp_fst {S : Nat → Prop} {w0 w : World} {rb n m bt : Nat} {fl : Bool} {np : Option Addr} {nl nc gv vc : Nat} (hnm : n = m + 1) (hf2 : n ≤ 1000000000) (hr : MRun w rb ⟨n, bt, fl⟩) (hS : ∀ k, S k → k ≠ rb ∧ k < w.heap.size) {tb tc : Nat} {hd : ByteArray} (hcell : w.cell? ⟨tb, 0, none⟩ = some (.string hd)) (hne : tb ≠ rb) {a1 : ByteArray} {p1 : Option Addr} {l1 k1 : Nat} (hc1 : w.cell? ⟨tb, 2, none⟩ = some (.string a1)) (hd1 : w.cell? ⟨tb, 3, none⟩ = some (.slice p1 l1 k1)) (hhd : hd.toList = [102, 115, 116]) {r1 : R7} {x y : Sv}
    (H1 : ∀ W, w.grownBy W (some rb) → MRun W rb ⟨m, bt, fl⟩ → Calls Tryz.prog 7 #[.pointer (some ⟨rb, 0, none⟩), .agg #[.string a1, .slice p1 l1 k1], .slice np nl nc, .slice (some ⟨gv, 0, none⟩) nl vc] W (MvPost S w0 rb (some (.pair x y), r1) W)) :
    Calls Tryz.prog 7 #[.pointer (some ⟨rb, 0, none⟩), .agg #[.string ByteArray.empty, .slice (some ⟨tb, 0, none⟩) 2 tc], .slice np nl nc, .slice (some ⟨gv, 0, none⟩) nl vc] w (MvPost S w0 rb (some x, r1) w) := by
  have hrl := lt_of_block hr
  have hn0 : ((n : Int) == 0) = false := by simp; omega
  have hs : IntKind.i64.wrap ((n : Int) - 1) = (m : Int) := by rw [IntWalk.i64_in _ (by omega)]; omega
  obtain ⟨W1, hW1⟩ : ∃ W1, W1 = (w.alloc (.cells #[.string ByteArray.empty, .slice (some ⟨tb, 0, none⟩) 2 tc] 27)).alloc (.cells #[.string ({ data := #[] } : ByteArray), .int .i64 0, .slice none 0 0, .string ({ data := #[] } : ByteArray), .slice none 0 0, .slice none 0 0, .slice none 0 0] 34) := ⟨_, rfl⟩
  have hr1 : MRun W1 rb ⟨n, bt, fl⟩ := by rw [hW1]; exact mrun_two hr _ _
  obtain ⟨c0, c1, c2, d0, d1, d2⟩ := mrun_cells hr1
  simp only at c0 c1 c2
  obtain ⟨W0, hW0⟩ : ∃ W0, W0 = w.setCell ⟨rb, 0, none⟩ (.int .i64 (m : Int)) := ⟨_, rfl⟩
  have hr0 : MRun W0 rb ⟨m, bt, fl⟩ := by rw [hW0]; exact (mrun_set hr).1 m
  have hg0 : w.grownBy W0 (some rb) := by rw [hW0]; exact setCell_grown _
  have hz0 : W0.heap.size = w.heap.size := by rw [hW0]; simp
  obtain ⟨W2, hW2⟩ : ∃ W2, W2 = (W0.alloc (.cells #[.string ByteArray.empty, .slice (some ⟨tb, 0, none⟩) 2 tc] 27)).alloc (.cells #[.string ({ data := #[] } : ByteArray), .int .i64 0, .slice none 0 0, .string ({ data := #[] } : ByteArray), .slice none 0 0, .slice none 0 0, .slice none 0 0] 34) := ⟨_, rfl⟩
  have hr2 : MRun W2 rb ⟨m, bt, fl⟩ := by rw [hW2]; exact mrun_two hr0 _ _
  have hg2 : w.grownBy W2 (some rb) := by rw [hW2]; exact grown_trans2 hg0 (two_grown W0 rb _ _)
  have hz2 : W2.heap.size = w.heap.size + 2 := by rw [hW2, ← hz0]; simp
  obtain ⟨e0, e1, e2, f0, f1, f2⟩ := mrun_cells hr2
  simp only at e0 e1 e2
  have hbx : W2.heap[w.heap.size]? = some (.cells #[.string ByteArray.empty, .slice (some ⟨tb, 0, none⟩) 2 tc] 27 (0, 0)) := by
    rw [hW2, heap_alloc_old _ _ (by simp; omega)]; exact heap_new W0 _ _ hz0.symm
  have hrs : W2.heap[w.heap.size + 1]? = some (.cells #[.string ({ data := #[] } : ByteArray), .int .i64 0, .slice none 0 0, .string ({ data := #[] } : ByteArray), .slice none 0 0, .slice none 0 0, .slice none 0 0] 34 (0, 0)) := by
    rw [hW2]; exact heap_new _ _ _ (by simp; omega)
  obtain ⟨b0, b1, _⟩ := cells_of_pair hbx
  obtain ⟨⟨z0, z1, z2, z3, z4, z5, z6⟩, y0, y1, y2, y3, y4, y5, y6⟩ := cells_of_7 hrs
  have kh := off_cell2 hg2 hne hcell
  have kc1 := off_cell2 hg2 hne hc1
  have kd1 := off_cell2 hg2 hne hd1
  have HCL := hid ((H1 W2 hg2 hr2).mono fun e w4 h => mvPost_some h hz2)
  have HG2 := hid hg2
  have HZ2 := hid hz2
  have HK3 := hid (fun (W : World) (h : W2.grownBy W (some rb)) => (show W.heap[w.heap.size + 1]? = some (.cells #[.string ({ data := #[] } : ByteArray), .int .i64 0, .slice none 0 0, .string ({ data := #[] } : ByteArray), .slice none 0 0, .slice none 0 0, .slice none 0 0] 34 (0, 0)) ∧ W.cell? ⟨tb, 0, none⟩ = some (.string hd) ∧ W.cell? ⟨tb, 2, none⟩ = some (.string a1) ∧ W.cell? ⟨tb, 3, none⟩ = some (.slice p1 l1 k1) ∧ w.heap.size + 1 < W.heap.size ∧ tb < W.heap.size ∧ Hid (w.grownBy W (some rb)) from
    ⟨(h.block _ (by omega) (fun e => by have : w.heap.size + 1 = rb := by first | exact Option.some.inj e | exact (Option.some.inj e).symm
                                        omega)).trans hrs, off_cell2 h hne kh, off_cell2 h hne kc1, off_cell2 h hne kd1, by have := h.size; omega, World.block_lt_of_cell? W _ (off_cell2 h hne kh), hid (grown_trans2 hg2 h)⟩))
  have q0 : (hd.toList == [103, 101, 116]) = false := by rw [hhd]; rfl
  have q1 : (hd.toList == [102, 97, 105, 108]) = false := by rw [hhd]; rfl
  have q2 : (hd.toList == [108, 97, 109]) = false := by rw [hhd]; rfl
  have q3 : (hd.toList == [105, 102]) = false := by rw [hhd]; rfl
  have q4 : (hd.toList == [102, 115, 116]) = true := by rw [hhd]; rfl
  have q5 : (hd.toList == [115, 110, 100]) = false := by rw [hhd]; rfl
  have q6 : (hd.toList == [112, 117, 116]) = false := by rw [hhd]; rfl
  have q7 : (hd.toList == [112, 97, 105, 114]) = false := by rw [hhd]; rfl
  clear hr hr1 hr0 hg0 hz0 hr2 hg2 hz2 hbx hrs hnm hcell hc1 hd1 H1 hhd
  rw [hW2, hW0] at e0 e1 e2 f0 f1 f2 b0 b1 z0 z1 z2 z3 z4 z5 z6 y0 y1 y2 y3 y4 y5 y6 kh kc1 kd1 HCL HK3
  rw [hW1] at c0 c1 c2 d0 d1 d2
  have HW2 := hid hW2
  have HW0 := hid hW0
  clear hW2 hW1 hW0
  go_enter Tryz.func7, Tryz.ntmps7
  go_wp2_with (go_at_call 7; refine HCL.out.mono ?_; rintro e w3 ⟨cs, rfl, hg3, hr3, hm3⟩; obtain ⟨g, c, kk, nn, pp, pl, pc, fa, fp, fl2, fc, np2, nl2, nc2, vp, vl, vc2, rfl, hgl, r0, r1', r2, r3, r4, r5, r6, hma⟩ := mv_fst hm3; have HMA := hid hma; clear hm3 hma; obtain ⟨hrs3, gh, gc1, gd1, hz3, htb3, hgw3⟩ := HK3.out _ hg3; obtain ⟨⟨t0, t1, t2, t3, t4, t5, t6⟩, s0, s1, s2, s3, s4, s5, s6⟩ := cells_of_7 hrs3; obtain ⟨g0, g1, g2, gf0, gf1, gf2⟩ := mrun_cells hr3; have HR3 := hid hr3; have HG3 := hid hg3; have hrl3 := lt_of_block hr3; clear hrs3 hr3 hg3)
  refine bodyPost_ret (v := .tuple #[.agg #[.string kk, .int .i64 nn, .slice pp pl pc, .string fa, .slice fp fl2 fc, .slice np2 nl2 nc2, .slice vp vl vc2], .bool true]) (by simp [results, Tryz.results7, go_sem, hz3, t0, t1, t2, t3, t4, t5, t6]) rfl ?_
  exact (mv_close hgw3.out HR3.out (by omega) (by omega) HMA.out (fun k hk => by rcases hk with hk | hk
                                                                                 · exact ⟨by have := (hS k hk).2; omega, .inl hk⟩
                                                                                 · exact ⟨by omega, .inr (by omega)⟩)).alloc _

set_option maxRecDepth 100000 in
set_option maxHeartbeats 4000000 in
theorem mp_snd {S : Nat → Prop} {w0 w : World} {rb n m bt : Nat} {fl : Bool} {np : Option Addr} {nl nc gv vc : Nat} (hnm : n = m + 1) (hf2 : n ≤ 1000000000) (hr : MRun w rb ⟨n, bt, fl⟩) (hS : ∀ k, S k → k ≠ rb ∧ k < w.heap.size) {tb tc : Nat} {hd : ByteArray} (hcell : w.cell? ⟨tb, 0, none⟩ = some (.string hd)) (hne : tb ≠ rb) {a1 : ByteArray} {p1 : Option Addr} {l1 k1 : Nat} (hc1 : w.cell? ⟨tb, 2, none⟩ = some (.string a1)) (hd1 : w.cell? ⟨tb, 3, none⟩ = some (.slice p1 l1 k1)) (hhd : hd.toList = [115, 110, 100]) {r1 : R7} {x y : Sv}
    (H1 : ∀ W, w.grownBy W (some rb) → MRun W rb ⟨m, bt, fl⟩ → Calls Tryz.prog 7 #[.pointer (some ⟨rb, 0, none⟩), .agg #[.string a1, .slice p1 l1 k1], .slice np nl nc, .slice (some ⟨gv, 0, none⟩) nl vc] W (MvPost S w0 rb (some (.pair x y), r1) W)) :
    Calls Tryz.prog 7 #[.pointer (some ⟨rb, 0, none⟩), .agg #[.string ByteArray.empty, .slice (some ⟨tb, 0, none⟩) 2 tc], .slice np nl nc, .slice (some ⟨gv, 0, none⟩) nl vc] w (MvPost S w0 rb (some y, r1) w) := by
  have hrl := lt_of_block hr
  have hn0 : ((n : Int) == 0) = false := by simp; omega
  have hs : IntKind.i64.wrap ((n : Int) - 1) = (m : Int) := by rw [IntWalk.i64_in _ (by omega)]; omega
  obtain ⟨W1, hW1⟩ : ∃ W1, W1 = (w.alloc (.cells #[.string ByteArray.empty, .slice (some ⟨tb, 0, none⟩) 2 tc] 27)).alloc (.cells #[.string ({ data := #[] } : ByteArray), .int .i64 0, .slice none 0 0, .string ({ data := #[] } : ByteArray), .slice none 0 0, .slice none 0 0, .slice none 0 0] 34) := ⟨_, rfl⟩
  have hr1 : MRun W1 rb ⟨n, bt, fl⟩ := by rw [hW1]; exact mrun_two hr _ _
  obtain ⟨c0, c1, c2, d0, d1, d2⟩ := mrun_cells hr1
  simp only at c0 c1 c2
  obtain ⟨W0, hW0⟩ : ∃ W0, W0 = w.setCell ⟨rb, 0, none⟩ (.int .i64 (m : Int)) := ⟨_, rfl⟩
  have hr0 : MRun W0 rb ⟨m, bt, fl⟩ := by rw [hW0]; exact (mrun_set hr).1 m
  have hg0 : w.grownBy W0 (some rb) := by rw [hW0]; exact setCell_grown _
  have hz0 : W0.heap.size = w.heap.size := by rw [hW0]; simp
  obtain ⟨W2, hW2⟩ : ∃ W2, W2 = (W0.alloc (.cells #[.string ByteArray.empty, .slice (some ⟨tb, 0, none⟩) 2 tc] 27)).alloc (.cells #[.string ({ data := #[] } : ByteArray), .int .i64 0, .slice none 0 0, .string ({ data := #[] } : ByteArray), .slice none 0 0, .slice none 0 0, .slice none 0 0] 34) := ⟨_, rfl⟩
  have hr2 : MRun W2 rb ⟨m, bt, fl⟩ := by rw [hW2]; exact mrun_two hr0 _ _
  have hg2 : w.grownBy W2 (some rb) := by rw [hW2]; exact grown_trans2 hg0 (two_grown W0 rb _ _)
  have hz2 : W2.heap.size = w.heap.size + 2 := by rw [hW2, ← hz0]; simp
  obtain ⟨e0, e1, e2, f0, f1, f2⟩ := mrun_cells hr2
  simp only at e0 e1 e2
  have hbx : W2.heap[w.heap.size]? = some (.cells #[.string ByteArray.empty, .slice (some ⟨tb, 0, none⟩) 2 tc] 27 (0, 0)) := by
    rw [hW2, heap_alloc_old _ _ (by simp; omega)]; exact heap_new W0 _ _ hz0.symm
  have hrs : W2.heap[w.heap.size + 1]? = some (.cells #[.string ({ data := #[] } : ByteArray), .int .i64 0, .slice none 0 0, .string ({ data := #[] } : ByteArray), .slice none 0 0, .slice none 0 0, .slice none 0 0] 34 (0, 0)) := by
    rw [hW2]; exact heap_new _ _ _ (by simp; omega)
  obtain ⟨b0, b1, _⟩ := cells_of_pair hbx
  obtain ⟨⟨z0, z1, z2, z3, z4, z5, z6⟩, y0, y1, y2, y3, y4, y5, y6⟩ := cells_of_7 hrs
  have kh := off_cell2 hg2 hne hcell
  have kc1 := off_cell2 hg2 hne hc1
  have kd1 := off_cell2 hg2 hne hd1
  have HCL := hid ((H1 W2 hg2 hr2).mono fun e w4 h => mvPost_some h hz2)
  have HG2 := hid hg2
  have HZ2 := hid hz2
  have HK3 := hid (fun (W : World) (h : W2.grownBy W (some rb)) => (show W.heap[w.heap.size + 1]? = some (.cells #[.string ({ data := #[] } : ByteArray), .int .i64 0, .slice none 0 0, .string ({ data := #[] } : ByteArray), .slice none 0 0, .slice none 0 0, .slice none 0 0] 34 (0, 0)) ∧ W.cell? ⟨tb, 0, none⟩ = some (.string hd) ∧ W.cell? ⟨tb, 2, none⟩ = some (.string a1) ∧ W.cell? ⟨tb, 3, none⟩ = some (.slice p1 l1 k1) ∧ w.heap.size + 1 < W.heap.size ∧ tb < W.heap.size ∧ Hid (w.grownBy W (some rb)) from
    ⟨(h.block _ (by omega) (fun e => by have : w.heap.size + 1 = rb := by first | exact Option.some.inj e | exact (Option.some.inj e).symm
                                        omega)).trans hrs, off_cell2 h hne kh, off_cell2 h hne kc1, off_cell2 h hne kd1, by have := h.size; omega, World.block_lt_of_cell? W _ (off_cell2 h hne kh), hid (grown_trans2 hg2 h)⟩))
  have q0 : (hd.toList == [103, 101, 116]) = false := by rw [hhd]; rfl
  have q1 : (hd.toList == [102, 97, 105, 108]) = false := by rw [hhd]; rfl
  have q2 : (hd.toList == [108, 97, 109]) = false := by rw [hhd]; rfl
  have q3 : (hd.toList == [105, 102]) = false := by rw [hhd]; rfl
  have q4 : (hd.toList == [102, 115, 116]) = false := by rw [hhd]; rfl
  have q5 : (hd.toList == [115, 110, 100]) = true := by rw [hhd]; rfl
  have q6 : (hd.toList == [112, 117, 116]) = false := by rw [hhd]; rfl
  have q7 : (hd.toList == [112, 97, 105, 114]) = false := by rw [hhd]; rfl
  clear hr hr1 hr0 hg0 hz0 hr2 hg2 hz2 hbx hrs hnm hcell hc1 hd1 H1 hhd
  rw [hW2, hW0] at e0 e1 e2 f0 f1 f2 b0 b1 z0 z1 z2 z3 z4 z5 z6 y0 y1 y2 y3 y4 y5 y6 kh kc1 kd1 HCL HK3
  rw [hW1] at c0 c1 c2 d0 d1 d2
  have HW2 := hid hW2
  have HW0 := hid hW0
  clear hW2 hW1 hW0
  go_enter Tryz.func7, Tryz.ntmps7
  go_wp2_with (go_at_call 7; refine HCL.out.mono ?_; rintro e w3 ⟨cs, rfl, hg3, hr3, hm3⟩; obtain ⟨g, c, kk, nn, pp, pl, pc, fa, fp, fl2, fc, np2, nl2, nc2, vp, vl, vc2, rfl, hgl, r0, r1', r2, r3, r4, r5, r6, hma⟩ := mv_snd hm3; have HMA := hid hma; clear hm3 hma; obtain ⟨hrs3, gh, gc1, gd1, hz3, htb3, hgw3⟩ := HK3.out _ hg3; obtain ⟨⟨t0, t1, t2, t3, t4, t5, t6⟩, s0, s1, s2, s3, s4, s5, s6⟩ := cells_of_7 hrs3; obtain ⟨g0, g1, g2, gf0, gf1, gf2⟩ := mrun_cells hr3; have HR3 := hid hr3; have HG3 := hid hg3; have hrl3 := lt_of_block hr3; clear hrs3 hr3 hg3)
  refine bodyPost_ret (v := .tuple #[.agg #[.string kk, .int .i64 nn, .slice pp pl pc, .string fa, .slice fp fl2 fc, .slice np2 nl2 nc2, .slice vp vl vc2], .bool true]) (by simp [results, Tryz.results7, go_sem, hz3, t0, t1, t2, t3, t4, t5, t6]) rfl ?_
  exact (mv_close hgw3.out HR3.out (by omega) (by omega) HMA.out (fun k hk => by rcases hk with hk | hk
                                                                                 · exact ⟨by have := (hS k hk).2; omega, .inl hk⟩
                                                                                 · exact ⟨by omega, .inr (by omega)⟩)).alloc _

set_option maxRecDepth 100000 in
set_option maxHeartbeats 4000000 in
theorem mp_put {S : Nat → Prop} {w0 w : World} {rb n m bt : Nat} {fl : Bool} {np : Option Addr} {nl nc gv vc : Nat} (hnm : n = m + 1) (hf2 : n ≤ 1000000000) (hr : MRun w rb ⟨n, bt, fl⟩)  {tb tc : Nat} {hd : ByteArray} (hcell : w.cell? ⟨tb, 0, none⟩ = some (.string hd)) (hne : tb ≠ rb) {a1 : ByteArray} {p1 : Option Addr} {l1 k1 : Nat} (hc1 : w.cell? ⟨tb, 2, none⟩ = some (.string a1)) (hd1 : w.cell? ⟨tb, 3, none⟩ = some (.slice p1 l1 k1)) (hhd : hd.toList = [112, 117, 116]) {r1 : R7} {q : Nat}
    (H1 : ∀ W, w.grownBy W (some rb) → MRun W rb ⟨m, bt, fl⟩ → Calls Tryz.prog 7 #[.pointer (some ⟨rb, 0, none⟩), .agg #[.string a1, .slice p1 l1 k1], .slice np nl nc, .slice (some ⟨gv, 0, none⟩) nl vc] W (MvPost S w0 rb (some (.bit q), r1) W)) :
    Calls Tryz.prog 7 #[.pointer (some ⟨rb, 0, none⟩), .agg #[.string ByteArray.empty, .slice (some ⟨tb, 0, none⟩) 2 tc], .slice np nl nc, .slice (some ⟨gv, 0, none⟩) nl vc] w (MvPost S w0 rb (some (.bit q), r1.to q) w) := by
  have hrl := lt_of_block hr
  have hn0 : ((n : Int) == 0) = false := by simp; omega
  have hs : IntKind.i64.wrap ((n : Int) - 1) = (m : Int) := by rw [IntWalk.i64_in _ (by omega)]; omega
  obtain ⟨W1, hW1⟩ : ∃ W1, W1 = (w.alloc (.cells #[.string ByteArray.empty, .slice (some ⟨tb, 0, none⟩) 2 tc] 27)).alloc (.cells #[.string ({ data := #[] } : ByteArray), .int .i64 0, .slice none 0 0, .string ({ data := #[] } : ByteArray), .slice none 0 0, .slice none 0 0, .slice none 0 0] 34) := ⟨_, rfl⟩
  have hr1 : MRun W1 rb ⟨n, bt, fl⟩ := by rw [hW1]; exact mrun_two hr _ _
  obtain ⟨c0, c1, c2, d0, d1, d2⟩ := mrun_cells hr1
  simp only at c0 c1 c2
  obtain ⟨W0, hW0⟩ : ∃ W0, W0 = w.setCell ⟨rb, 0, none⟩ (.int .i64 (m : Int)) := ⟨_, rfl⟩
  have hr0 : MRun W0 rb ⟨m, bt, fl⟩ := by rw [hW0]; exact (mrun_set hr).1 m
  have hg0 : w.grownBy W0 (some rb) := by rw [hW0]; exact setCell_grown _
  have hz0 : W0.heap.size = w.heap.size := by rw [hW0]; simp
  obtain ⟨W2, hW2⟩ : ∃ W2, W2 = (W0.alloc (.cells #[.string ByteArray.empty, .slice (some ⟨tb, 0, none⟩) 2 tc] 27)).alloc (.cells #[.string ({ data := #[] } : ByteArray), .int .i64 0, .slice none 0 0, .string ({ data := #[] } : ByteArray), .slice none 0 0, .slice none 0 0, .slice none 0 0] 34) := ⟨_, rfl⟩
  have hr2 : MRun W2 rb ⟨m, bt, fl⟩ := by rw [hW2]; exact mrun_two hr0 _ _
  have hg2 : w.grownBy W2 (some rb) := by rw [hW2]; exact grown_trans2 hg0 (two_grown W0 rb _ _)
  have hz2 : W2.heap.size = w.heap.size + 2 := by rw [hW2, ← hz0]; simp
  obtain ⟨e0, e1, e2, f0, f1, f2⟩ := mrun_cells hr2
  simp only at e0 e1 e2
  have hbx : W2.heap[w.heap.size]? = some (.cells #[.string ByteArray.empty, .slice (some ⟨tb, 0, none⟩) 2 tc] 27 (0, 0)) := by
    rw [hW2, heap_alloc_old _ _ (by simp; omega)]; exact heap_new W0 _ _ hz0.symm
  have hrs : W2.heap[w.heap.size + 1]? = some (.cells #[.string ({ data := #[] } : ByteArray), .int .i64 0, .slice none 0 0, .string ({ data := #[] } : ByteArray), .slice none 0 0, .slice none 0 0, .slice none 0 0] 34 (0, 0)) := by
    rw [hW2]; exact heap_new _ _ _ (by simp; omega)
  obtain ⟨b0, b1, _⟩ := cells_of_pair hbx
  obtain ⟨⟨z0, z1, z2, z3, z4, z5, z6⟩, y0, y1, y2, y3, y4, y5, y6⟩ := cells_of_7 hrs
  have kh := off_cell2 hg2 hne hcell
  have kc1 := off_cell2 hg2 hne hc1
  have kd1 := off_cell2 hg2 hne hd1
  have HCL := hid ((H1 W2 hg2 hr2).mono fun e w4 h => mvPost_some h hz2)
  have HG2 := hid hg2
  have HZ2 := hid hz2
  have HK3 := hid (fun (W : World) (h : W2.grownBy W (some rb)) => (show W.heap[w.heap.size + 1]? = some (.cells #[.string ({ data := #[] } : ByteArray), .int .i64 0, .slice none 0 0, .string ({ data := #[] } : ByteArray), .slice none 0 0, .slice none 0 0, .slice none 0 0] 34 (0, 0)) ∧ W.cell? ⟨tb, 0, none⟩ = some (.string hd) ∧ W.cell? ⟨tb, 2, none⟩ = some (.string a1) ∧ W.cell? ⟨tb, 3, none⟩ = some (.slice p1 l1 k1) ∧ w.heap.size + 1 < W.heap.size ∧ tb < W.heap.size ∧ Hid (w.grownBy W (some rb)) from
    ⟨(h.block _ (by omega) (fun e => by have : w.heap.size + 1 = rb := by first | exact Option.some.inj e | exact (Option.some.inj e).symm
                                        omega)).trans hrs, off_cell2 h hne kh, off_cell2 h hne kc1, off_cell2 h hne kd1, by have := h.size; omega, World.block_lt_of_cell? W _ (off_cell2 h hne kh), hid (grown_trans2 hg2 h)⟩))
  have q0 : (hd.toList == [103, 101, 116]) = false := by rw [hhd]; rfl
  have q1 : (hd.toList == [102, 97, 105, 108]) = false := by rw [hhd]; rfl
  have q2 : (hd.toList == [108, 97, 109]) = false := by rw [hhd]; rfl
  have q3 : (hd.toList == [105, 102]) = false := by rw [hhd]; rfl
  have q4 : (hd.toList == [102, 115, 116]) = false := by rw [hhd]; rfl
  have q5 : (hd.toList == [115, 110, 100]) = false := by rw [hhd]; rfl
  have q6 : (hd.toList == [112, 117, 116]) = true := by rw [hhd]; rfl
  have q7 : (hd.toList == [112, 97, 105, 114]) = false := by rw [hhd]; rfl
  clear hr hr1 hr0 hg0 hz0 hr2 hg2 hz2 hbx hrs hnm hcell hc1 hd1 H1 hhd
  rw [hW2, hW0] at e0 e1 e2 f0 f1 f2 b0 b1 z0 z1 z2 z3 z4 z5 z6 y0 y1 y2 y3 y4 y5 y6 kh kc1 kd1 HCL HK3
  rw [hW1] at c0 c1 c2 d0 d1 d2
  have HW2 := hid hW2
  have HW0 := hid hW0
  clear hW2 hW1 hW0
  go_enter Tryz.func7, Tryz.ntmps7
  go_wp2_with (go_at_call 7; refine HCL.out.mono ?_; rintro e w3 ⟨cs, rfl, hg3, hr3, hm3⟩; obtain rfl := mv_bit hm3; clear hm3; obtain ⟨hrs3, gh, gc1, gd1, hz3, htb3, hgw3⟩ := HK3.out _ hg3; obtain ⟨⟨t0, t1, t2, t3, t4, t5, t6⟩, s0, s1, s2, s3, s4, s5, s6⟩ := cells_of_7 hrs3; obtain ⟨g0, g1, g2, gf0, gf1, gf2⟩ := mrun_cells hr3; have HR3 := hid hr3; have HG3 := hid hg3; have hrl3 := lt_of_block hr3; clear hrs3 hr3 hg3)
  refine bodyPost_ret (v := .tuple #[.agg #[.string ({ data := #[98, 105, 116] } : ByteArray), .int .i64 (q : Int), .slice none 0 0, .string ByteArray.empty, .slice none 0 0, .slice none 0 0, .slice none 0 0], .bool true]) (by simp [results, Tryz.results7, go_sem, hz3, t0, t1, t2, t3, t4, t5, t6]) rfl ?_
  exact (mv_close (S3 := fun _ => False) (grown_trans2 hgw3.out (setCell_grown _)) ((mrun_set HR3.out).2.1 q) (by omega) (by omega) (.bit q) (fun k hk => hk.elim)).alloc _

set_option maxRecDepth 100000 in
set_option maxHeartbeats 4000000 in
theorem mp_if1 {S : Nat → Prop} {w0 w : World} {rb n m bt : Nat} {fl : Bool} {np : Option Addr} {nl nc gv vc : Nat} (hnm : n = m + 1) (hf2 : n ≤ 1000000000) (hr : MRun w rb ⟨n, bt, fl⟩) (hS : ∀ k, S k → k ≠ rb ∧ k < w.heap.size) {tb tc : Nat} {hd : ByteArray} (hcell : w.cell? ⟨tb, 0, none⟩ = some (.string hd)) (hne : tb ≠ rb) {a1 : ByteArray} {p1 : Option Addr} {l1 k1 : Nat} (hc1 : w.cell? ⟨tb, 2, none⟩ = some (.string a1)) (hd1 : w.cell? ⟨tb, 3, none⟩ = some (.slice p1 l1 k1)) {a2 : ByteArray} {p2 : Option Addr} {l2 k2 : Nat} (hc2 : w.cell? ⟨tb, 4, none⟩ = some (.string a2)) (hd2 : w.cell? ⟨tb, 5, none⟩ = some (.slice p2 l2 k2)) {a3 : ByteArray} {p3 : Option Addr} {l3 k3 : Nat} (hc3 : w.cell? ⟨tb, 6, none⟩ = some (.string a3)) (hd3 : w.cell? ⟨tb, 7, none⟩ = some (.slice p3 l3 k3)) (hhd : hd.toList = [105, 102]) {r1 : R7} {X : Option Sv × R7} (H2 : ∀ W, w.grownBy W (some rb) → MRun W rb r1 → Calls Tryz.prog 7 #[.pointer (some ⟨rb, 0, none⟩), .agg #[.string a2, .slice p2 l2 k2], .slice np nl nc, .slice (some ⟨gv, 0, none⟩) nl vc] W (MvPost S w0 rb X W))
    (H1 : ∀ W, w.grownBy W (some rb) → MRun W rb ⟨m, bt, fl⟩ → Calls Tryz.prog 7 #[.pointer (some ⟨rb, 0, none⟩), .agg #[.string a1, .slice p1 l1 k1], .slice np nl nc, .slice (some ⟨gv, 0, none⟩) nl vc] W (MvPost S w0 rb (some (.bit 1), r1) W)) :
    Calls Tryz.prog 7 #[.pointer (some ⟨rb, 0, none⟩), .agg #[.string ByteArray.empty, .slice (some ⟨tb, 0, none⟩) 4 tc], .slice np nl nc, .slice (some ⟨gv, 0, none⟩) nl vc] w (MvPost S w0 rb X w) := by
  have hrl := lt_of_block hr
  have hn0 : ((n : Int) == 0) = false := by simp; omega
  have hs : IntKind.i64.wrap ((n : Int) - 1) = (m : Int) := by rw [IntWalk.i64_in _ (by omega)]; omega
  obtain ⟨W1, hW1⟩ : ∃ W1, W1 = (w.alloc (.cells #[.string ByteArray.empty, .slice (some ⟨tb, 0, none⟩) 4 tc] 27)).alloc (.cells #[.string ({ data := #[] } : ByteArray), .int .i64 0, .slice none 0 0, .string ({ data := #[] } : ByteArray), .slice none 0 0, .slice none 0 0, .slice none 0 0] 34) := ⟨_, rfl⟩
  have hr1 : MRun W1 rb ⟨n, bt, fl⟩ := by rw [hW1]; exact mrun_two hr _ _
  obtain ⟨c0, c1, c2, d0, d1, d2⟩ := mrun_cells hr1
  simp only at c0 c1 c2
  obtain ⟨W0, hW0⟩ : ∃ W0, W0 = w.setCell ⟨rb, 0, none⟩ (.int .i64 (m : Int)) := ⟨_, rfl⟩
  have hr0 : MRun W0 rb ⟨m, bt, fl⟩ := by rw [hW0]; exact (mrun_set hr).1 m
  have hg0 : w.grownBy W0 (some rb) := by rw [hW0]; exact setCell_grown _
  have hz0 : W0.heap.size = w.heap.size := by rw [hW0]; simp
  obtain ⟨W2, hW2⟩ : ∃ W2, W2 = (W0.alloc (.cells #[.string ByteArray.empty, .slice (some ⟨tb, 0, none⟩) 4 tc] 27)).alloc (.cells #[.string ({ data := #[] } : ByteArray), .int .i64 0, .slice none 0 0, .string ({ data := #[] } : ByteArray), .slice none 0 0, .slice none 0 0, .slice none 0 0] 34) := ⟨_, rfl⟩
  have hr2 : MRun W2 rb ⟨m, bt, fl⟩ := by rw [hW2]; exact mrun_two hr0 _ _
  have hg2 : w.grownBy W2 (some rb) := by rw [hW2]; exact grown_trans2 hg0 (two_grown W0 rb _ _)
  have hz2 : W2.heap.size = w.heap.size + 2 := by rw [hW2, ← hz0]; simp
  obtain ⟨e0, e1, e2, f0, f1, f2⟩ := mrun_cells hr2
  simp only at e0 e1 e2
  have hbx : W2.heap[w.heap.size]? = some (.cells #[.string ByteArray.empty, .slice (some ⟨tb, 0, none⟩) 4 tc] 27 (0, 0)) := by
    rw [hW2, heap_alloc_old _ _ (by simp; omega)]; exact heap_new W0 _ _ hz0.symm
  have hrs : W2.heap[w.heap.size + 1]? = some (.cells #[.string ({ data := #[] } : ByteArray), .int .i64 0, .slice none 0 0, .string ({ data := #[] } : ByteArray), .slice none 0 0, .slice none 0 0, .slice none 0 0] 34 (0, 0)) := by
    rw [hW2]; exact heap_new _ _ _ (by simp; omega)
  obtain ⟨b0, b1, _⟩ := cells_of_pair hbx
  obtain ⟨⟨z0, z1, z2, z3, z4, z5, z6⟩, y0, y1, y2, y3, y4, y5, y6⟩ := cells_of_7 hrs
  have kh := off_cell2 hg2 hne hcell
  have kc1 := off_cell2 hg2 hne hc1
  have kd1 := off_cell2 hg2 hne hd1
  have kc2 := off_cell2 hg2 hne hc2
  have kd2 := off_cell2 hg2 hne hd2
  have kc3 := off_cell2 hg2 hne hc3
  have kd3 := off_cell2 hg2 hne hd3
  have HCL := hid ((H1 W2 hg2 hr2).mono fun e w4 h => mvPost_some h hz2)
  have HG2 := hid hg2
  have HZ2 := hid hz2
  have HK3 := hid (fun (W : World) (h : W2.grownBy W (some rb)) => (show W.heap[w.heap.size + 1]? = some (.cells #[.string ({ data := #[] } : ByteArray), .int .i64 0, .slice none 0 0, .string ({ data := #[] } : ByteArray), .slice none 0 0, .slice none 0 0, .slice none 0 0] 34 (0, 0)) ∧ W.cell? ⟨tb, 0, none⟩ = some (.string hd) ∧ W.cell? ⟨tb, 2, none⟩ = some (.string a1) ∧ W.cell? ⟨tb, 3, none⟩ = some (.slice p1 l1 k1) ∧ W.cell? ⟨tb, 4, none⟩ = some (.string a2) ∧ W.cell? ⟨tb, 5, none⟩ = some (.slice p2 l2 k2) ∧ W.cell? ⟨tb, 6, none⟩ = some (.string a3) ∧ W.cell? ⟨tb, 7, none⟩ = some (.slice p3 l3 k3) ∧ w.heap.size + 1 < W.heap.size ∧ tb < W.heap.size ∧ Hid (w.grownBy W (some rb)) from
    ⟨(h.block _ (by omega) (fun e => by have : w.heap.size + 1 = rb := by first | exact Option.some.inj e | exact (Option.some.inj e).symm
                                        omega)).trans hrs, off_cell2 h hne kh, off_cell2 h hne kc1, off_cell2 h hne kd1, off_cell2 h hne kc2, off_cell2 h hne kd2, off_cell2 h hne kc3, off_cell2 h hne kd3, by have := h.size; omega, World.block_lt_of_cell? W _ (off_cell2 h hne kh), hid (grown_trans2 hg2 h)⟩))
  have q0 : (hd.toList == [103, 101, 116]) = false := by rw [hhd]; rfl
  have q1 : (hd.toList == [102, 97, 105, 108]) = false := by rw [hhd]; rfl
  have q2 : (hd.toList == [108, 97, 109]) = false := by rw [hhd]; rfl
  have q3 : (hd.toList == [105, 102]) = true := by rw [hhd]; rfl
  have q4 : (hd.toList == [102, 115, 116]) = false := by rw [hhd]; rfl
  have q5 : (hd.toList == [115, 110, 100]) = false := by rw [hhd]; rfl
  have q6 : (hd.toList == [112, 117, 116]) = false := by rw [hhd]; rfl
  have q7 : (hd.toList == [112, 97, 105, 114]) = false := by rw [hhd]; rfl
  have HC2 := hid H2
  clear H2
  clear hr hr1 hr0 hg0 hz0 hr2 hg2 hz2 hbx hrs hnm hcell hc1 hd1 hc2 hd2 hc3 hd3 H1 hhd
  rw [hW2, hW0] at e0 e1 e2 f0 f1 f2 b0 b1 z0 z1 z2 z3 z4 z5 z6 y0 y1 y2 y3 y4 y5 y6 kh kc1 kd1 kc2 kd2 kc3 kd3 HCL HK3
  rw [hW1] at c0 c1 c2 d0 d1 d2
  have HW2 := hid hW2
  have HW0 := hid hW0
  clear hW2 hW1 hW0
  go_enter Tryz.func7, Tryz.ntmps7
  go_wp2_with (first
    | (have _ := HG3; go_at_call 7; refine (HC2.out _ (grown_below hgw3.out ((Below.refl _ _).alloc (Nat.le_refl _) _) hgw3.out.size) (mrun_below HR3.out ((Below.refl _ _).alloc (Nat.le_refl _) _) hrl3)).mono ?_; rintro e w4 hp; obtain ⟨kk, nn, pp, pl, pc, fa, fp, fl2, fc, np2, nl2, nc2, vp, vl, vc2, bb, rfl, hp⟩ := mvPost_shape hp; have hg4 := grown_trans2 (grown_below HG3.out ((Below.refl _ _).alloc (Nat.le_refl _) _) HG3.out.size) hp.1; have hr4 := hp.2.1; have HP := hid hp; clear hp; obtain ⟨hrs4, jh, jc1, jd1, jc2, jd2, jc3, jd3, hz4, htb4, hgw4⟩ := HK3.out _ hg4; obtain ⟨⟨v0, v1, v2, v3, v4, v5, v6⟩, o0, o1, o2, o3, o4, o5, o6⟩ := cells_of_7 hrs4; obtain ⟨j0, j1, j2, jf0, jf1, jf2⟩ := mrun_cells hr4; have HR4 := hid hr4; have HG4 := hid hg4; have hrl4 := lt_of_block hr4; clear hrs4 hr4 hg4)
    | (go_at_call 7; refine HCL.out.mono ?_; rintro e w3 ⟨cs, rfl, hg3, hr3, hm3⟩; obtain rfl := mv_bit hm3; clear hm3; obtain ⟨hrs3, gh, gc1, gd1, gc2, gd2, gc3, gd3, hz3, htb3, hgw3⟩ := HK3.out _ hg3; obtain ⟨⟨t0, t1, t2, t3, t4, t5, t6⟩, s0, s1, s2, s3, s4, s5, s6⟩ := cells_of_7 hrs3; obtain ⟨g0, g1, g2, gf0, gf1, gf2⟩ := mrun_cells hr3; have HR3 := hid hr3; have HG3 := hid hg3; have hrl3 := lt_of_block hr3; clear hrs3 hr3 hg3))
  refine bodyPost_ret (v := .tuple #[.agg #[.string kk, .int .i64 nn, .slice pp pl pc, .string fa, .slice fp fl2 fc, .slice np2 nl2 nc2, .slice vp vl vc2], .bool bb]) (by simp [results, Tryz.results7, go_sem, v0, v1, v2, v3, v4, v5, v6]) rfl ?_
  exact mv_close_any (grown_below hgw3.out ((Below.refl _ _).alloc (Nat.le_refl _) _) hgw3.out.size) HP.out hS (by omega) (by omega) (by simp; omega)

set_option maxRecDepth 100000 in
set_option maxHeartbeats 4000000 in
theorem mp_if0 {S : Nat → Prop} {w0 w : World} {rb n m bt : Nat} {fl : Bool} {np : Option Addr} {nl nc gv vc : Nat} (hnm : n = m + 1) (hf2 : n ≤ 1000000000) (hr : MRun w rb ⟨n, bt, fl⟩) (hS : ∀ k, S k → k ≠ rb ∧ k < w.heap.size) {tb tc : Nat} {hd : ByteArray} (hcell : w.cell? ⟨tb, 0, none⟩ = some (.string hd)) (hne : tb ≠ rb) {a1 : ByteArray} {p1 : Option Addr} {l1 k1 : Nat} (hc1 : w.cell? ⟨tb, 2, none⟩ = some (.string a1)) (hd1 : w.cell? ⟨tb, 3, none⟩ = some (.slice p1 l1 k1)) {a2 : ByteArray} {p2 : Option Addr} {l2 k2 : Nat} (hc2 : w.cell? ⟨tb, 4, none⟩ = some (.string a2)) (hd2 : w.cell? ⟨tb, 5, none⟩ = some (.slice p2 l2 k2)) {a3 : ByteArray} {p3 : Option Addr} {l3 k3 : Nat} (hc3 : w.cell? ⟨tb, 6, none⟩ = some (.string a3)) (hd3 : w.cell? ⟨tb, 7, none⟩ = some (.slice p3 l3 k3)) (hhd : hd.toList = [105, 102]) {r1 : R7} {X : Option Sv × R7} (H2 : ∀ W, w.grownBy W (some rb) → MRun W rb r1 → Calls Tryz.prog 7 #[.pointer (some ⟨rb, 0, none⟩), .agg #[.string a3, .slice p3 l3 k3], .slice np nl nc, .slice (some ⟨gv, 0, none⟩) nl vc] W (MvPost S w0 rb X W))
    (H1 : ∀ W, w.grownBy W (some rb) → MRun W rb ⟨m, bt, fl⟩ → Calls Tryz.prog 7 #[.pointer (some ⟨rb, 0, none⟩), .agg #[.string a1, .slice p1 l1 k1], .slice np nl nc, .slice (some ⟨gv, 0, none⟩) nl vc] W (MvPost S w0 rb (some (.bit 0), r1) W)) :
    Calls Tryz.prog 7 #[.pointer (some ⟨rb, 0, none⟩), .agg #[.string ByteArray.empty, .slice (some ⟨tb, 0, none⟩) 4 tc], .slice np nl nc, .slice (some ⟨gv, 0, none⟩) nl vc] w (MvPost S w0 rb X w) := by
  have hrl := lt_of_block hr
  have hn0 : ((n : Int) == 0) = false := by simp; omega
  have hs : IntKind.i64.wrap ((n : Int) - 1) = (m : Int) := by rw [IntWalk.i64_in _ (by omega)]; omega
  obtain ⟨W1, hW1⟩ : ∃ W1, W1 = (w.alloc (.cells #[.string ByteArray.empty, .slice (some ⟨tb, 0, none⟩) 4 tc] 27)).alloc (.cells #[.string ({ data := #[] } : ByteArray), .int .i64 0, .slice none 0 0, .string ({ data := #[] } : ByteArray), .slice none 0 0, .slice none 0 0, .slice none 0 0] 34) := ⟨_, rfl⟩
  have hr1 : MRun W1 rb ⟨n, bt, fl⟩ := by rw [hW1]; exact mrun_two hr _ _
  obtain ⟨c0, c1, c2, d0, d1, d2⟩ := mrun_cells hr1
  simp only at c0 c1 c2
  obtain ⟨W0, hW0⟩ : ∃ W0, W0 = w.setCell ⟨rb, 0, none⟩ (.int .i64 (m : Int)) := ⟨_, rfl⟩
  have hr0 : MRun W0 rb ⟨m, bt, fl⟩ := by rw [hW0]; exact (mrun_set hr).1 m
  have hg0 : w.grownBy W0 (some rb) := by rw [hW0]; exact setCell_grown _
  have hz0 : W0.heap.size = w.heap.size := by rw [hW0]; simp
  obtain ⟨W2, hW2⟩ : ∃ W2, W2 = (W0.alloc (.cells #[.string ByteArray.empty, .slice (some ⟨tb, 0, none⟩) 4 tc] 27)).alloc (.cells #[.string ({ data := #[] } : ByteArray), .int .i64 0, .slice none 0 0, .string ({ data := #[] } : ByteArray), .slice none 0 0, .slice none 0 0, .slice none 0 0] 34) := ⟨_, rfl⟩
  have hr2 : MRun W2 rb ⟨m, bt, fl⟩ := by rw [hW2]; exact mrun_two hr0 _ _
  have hg2 : w.grownBy W2 (some rb) := by rw [hW2]; exact grown_trans2 hg0 (two_grown W0 rb _ _)
  have hz2 : W2.heap.size = w.heap.size + 2 := by rw [hW2, ← hz0]; simp
  obtain ⟨e0, e1, e2, f0, f1, f2⟩ := mrun_cells hr2
  simp only at e0 e1 e2
  have hbx : W2.heap[w.heap.size]? = some (.cells #[.string ByteArray.empty, .slice (some ⟨tb, 0, none⟩) 4 tc] 27 (0, 0)) := by
    rw [hW2, heap_alloc_old _ _ (by simp; omega)]; exact heap_new W0 _ _ hz0.symm
  have hrs : W2.heap[w.heap.size + 1]? = some (.cells #[.string ({ data := #[] } : ByteArray), .int .i64 0, .slice none 0 0, .string ({ data := #[] } : ByteArray), .slice none 0 0, .slice none 0 0, .slice none 0 0] 34 (0, 0)) := by
    rw [hW2]; exact heap_new _ _ _ (by simp; omega)
  obtain ⟨b0, b1, _⟩ := cells_of_pair hbx
  obtain ⟨⟨z0, z1, z2, z3, z4, z5, z6⟩, y0, y1, y2, y3, y4, y5, y6⟩ := cells_of_7 hrs
  have kh := off_cell2 hg2 hne hcell
  have kc1 := off_cell2 hg2 hne hc1
  have kd1 := off_cell2 hg2 hne hd1
  have kc2 := off_cell2 hg2 hne hc2
  have kd2 := off_cell2 hg2 hne hd2
  have kc3 := off_cell2 hg2 hne hc3
  have kd3 := off_cell2 hg2 hne hd3
  have HCL := hid ((H1 W2 hg2 hr2).mono fun e w4 h => mvPost_some h hz2)
  have HG2 := hid hg2
  have HZ2 := hid hz2
  have HK3 := hid (fun (W : World) (h : W2.grownBy W (some rb)) => (show W.heap[w.heap.size + 1]? = some (.cells #[.string ({ data := #[] } : ByteArray), .int .i64 0, .slice none 0 0, .string ({ data := #[] } : ByteArray), .slice none 0 0, .slice none 0 0, .slice none 0 0] 34 (0, 0)) ∧ W.cell? ⟨tb, 0, none⟩ = some (.string hd) ∧ W.cell? ⟨tb, 2, none⟩ = some (.string a1) ∧ W.cell? ⟨tb, 3, none⟩ = some (.slice p1 l1 k1) ∧ W.cell? ⟨tb, 4, none⟩ = some (.string a2) ∧ W.cell? ⟨tb, 5, none⟩ = some (.slice p2 l2 k2) ∧ W.cell? ⟨tb, 6, none⟩ = some (.string a3) ∧ W.cell? ⟨tb, 7, none⟩ = some (.slice p3 l3 k3) ∧ w.heap.size + 1 < W.heap.size ∧ tb < W.heap.size ∧ Hid (w.grownBy W (some rb)) from
    ⟨(h.block _ (by omega) (fun e => by have : w.heap.size + 1 = rb := by first | exact Option.some.inj e | exact (Option.some.inj e).symm
                                        omega)).trans hrs, off_cell2 h hne kh, off_cell2 h hne kc1, off_cell2 h hne kd1, off_cell2 h hne kc2, off_cell2 h hne kd2, off_cell2 h hne kc3, off_cell2 h hne kd3, by have := h.size; omega, World.block_lt_of_cell? W _ (off_cell2 h hne kh), hid (grown_trans2 hg2 h)⟩))
  have q0 : (hd.toList == [103, 101, 116]) = false := by rw [hhd]; rfl
  have q1 : (hd.toList == [102, 97, 105, 108]) = false := by rw [hhd]; rfl
  have q2 : (hd.toList == [108, 97, 109]) = false := by rw [hhd]; rfl
  have q3 : (hd.toList == [105, 102]) = true := by rw [hhd]; rfl
  have q4 : (hd.toList == [102, 115, 116]) = false := by rw [hhd]; rfl
  have q5 : (hd.toList == [115, 110, 100]) = false := by rw [hhd]; rfl
  have q6 : (hd.toList == [112, 117, 116]) = false := by rw [hhd]; rfl
  have q7 : (hd.toList == [112, 97, 105, 114]) = false := by rw [hhd]; rfl
  have HC2 := hid H2
  clear H2
  clear hr hr1 hr0 hg0 hz0 hr2 hg2 hz2 hbx hrs hnm hcell hc1 hd1 hc2 hd2 hc3 hd3 H1 hhd
  rw [hW2, hW0] at e0 e1 e2 f0 f1 f2 b0 b1 z0 z1 z2 z3 z4 z5 z6 y0 y1 y2 y3 y4 y5 y6 kh kc1 kd1 kc2 kd2 kc3 kd3 HCL HK3
  rw [hW1] at c0 c1 c2 d0 d1 d2
  have HW2 := hid hW2
  have HW0 := hid hW0
  clear hW2 hW1 hW0
  go_enter Tryz.func7, Tryz.ntmps7
  go_wp2_with (first
    | (have _ := HG3; go_at_call 7; refine (HC2.out _ (grown_below hgw3.out ((Below.refl _ _).alloc (Nat.le_refl _) _) hgw3.out.size) (mrun_below HR3.out ((Below.refl _ _).alloc (Nat.le_refl _) _) hrl3)).mono ?_; rintro e w4 hp; obtain ⟨kk, nn, pp, pl, pc, fa, fp, fl2, fc, np2, nl2, nc2, vp, vl, vc2, bb, rfl, hp⟩ := mvPost_shape hp; have hg4 := grown_trans2 (grown_below HG3.out ((Below.refl _ _).alloc (Nat.le_refl _) _) HG3.out.size) hp.1; have hr4 := hp.2.1; have HP := hid hp; clear hp; obtain ⟨hrs4, jh, jc1, jd1, jc2, jd2, jc3, jd3, hz4, htb4, hgw4⟩ := HK3.out _ hg4; obtain ⟨⟨v0, v1, v2, v3, v4, v5, v6⟩, o0, o1, o2, o3, o4, o5, o6⟩ := cells_of_7 hrs4; obtain ⟨j0, j1, j2, jf0, jf1, jf2⟩ := mrun_cells hr4; have HR4 := hid hr4; have HG4 := hid hg4; have hrl4 := lt_of_block hr4; clear hrs4 hr4 hg4)
    | (go_at_call 7; refine HCL.out.mono ?_; rintro e w3 ⟨cs, rfl, hg3, hr3, hm3⟩; obtain rfl := mv_bit hm3; clear hm3; obtain ⟨hrs3, gh, gc1, gd1, gc2, gd2, gc3, gd3, hz3, htb3, hgw3⟩ := HK3.out _ hg3; obtain ⟨⟨t0, t1, t2, t3, t4, t5, t6⟩, s0, s1, s2, s3, s4, s5, s6⟩ := cells_of_7 hrs3; obtain ⟨g0, g1, g2, gf0, gf1, gf2⟩ := mrun_cells hr3; have HR3 := hid hr3; have HG3 := hid hg3; have hrl3 := lt_of_block hr3; clear hrs3 hr3 hg3))
  refine bodyPost_ret (v := .tuple #[.agg #[.string kk, .int .i64 nn, .slice pp pl pc, .string fa, .slice fp fl2 fc, .slice np2 nl2 nc2, .slice vp vl vc2], .bool bb]) (by simp [results, Tryz.results7, go_sem, v0, v1, v2, v3, v4, v5, v6]) rfl ?_
  exact mv_close_any (grown_below hgw3.out ((Below.refl _ _).alloc (Nat.le_refl _) _) hgw3.out.size) HP.out hS (by omega) (by omega) (by simp; omega)
end Go.Proofs.YtmjhfekcbagibaaGreatDoor
