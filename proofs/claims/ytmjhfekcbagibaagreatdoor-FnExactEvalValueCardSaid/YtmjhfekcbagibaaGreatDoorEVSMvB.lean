/- Merged: MvB. -/
import Derived.Test.YtmjhfekcbagibaaGreatDoorEV20
namespace Go.Proofs.YtmjhfekcbagibaaGreatDoor
open Go.RowKit

theorem grown_trans2 {a b c : World} {o : Option Nat} (h1 : a.grownBy b o) (h2 : b.grownBy c o) : a.grownBy c o :=
  ⟨h2.os.trans h1.os, h2.tape.trans h1.tape, h2.output.trans h1.output, Nat.le_trans h1.size h2.size, fun k hk hn => (h2.block k (by have := h1.size; omega) hn).trans (h1.block k hk hn)⟩
theorem grown_below {w w1 w2 : World} {rb base : Nat} (h : w.grownBy w1 (some rb)) (hb : Below base w1 w2) (hl : w.heap.size ≤ base) : w.grownBy w2 (some rb) :=
  ⟨hb.os.trans h.os, hb.tape.trans h.tape, hb.output.trans h.output, Nat.le_trans h.size hb.size, fun k hk hn => (hb.block k (by omega)).trans (h.block k hk hn)⟩
theorem mrun_below {w w' : World} {rb base : Nat} {r : R7} (h : MRun w rb r) (hb : Below base w w') (hl : rb < base) : MRun w' rb r := (hb.block rb hl).trans h
theorem mvPost_none {S : Nat → Prop} {w0 w w' : World} {rb : Nat} {r : R7} {k : ByteArray} {n : Int} {pp : Option Addr} {pl pc : Nat} {fa : ByteArray} {fp : Option Addr} {fl fc : Nat} {np : Option Addr} {nl nc : Nat} {vp : Option Addr} {vl vc : Nat} (h1 : w.grownBy w' (some rb)) (h2 : MRun w' rb r) :
    MvPost S w0 rb (none, r) w (.returned (.tuple #[.agg #[.string k, .int .i64 n, .slice pp pl pc, .string fa, .slice fp fl fc, .slice np nl nc, .slice vp vl vc], .bool false])) w' :=
  ⟨h1, h2, k, n, pp, pl, pc, fa, fp, fl, fc, np, nl, nc, vp, vl, vc, rfl⟩
/-- The run's cells behind the box and the result's cells. -/
theorem mrun_two {w : World} {rb : Nat} {r : R7} (h : MRun w rb r) (o o2 : Obj) : MRun ((w.alloc o).alloc o2) rb r :=
  mrun_below (mrun_below h ((Below.refl _ _).alloc (Nat.le_refl _) o) (lt_of_block h)) ((Below.refl _ _).alloc (Nat.le_refl _) o2) (by have := lt_of_block h; simp; omega)
theorem two_grown (w : World) (rb : Nat) (o o2 : Obj) : w.grownBy ((w.alloc o).alloc o2) (some rb) :=
  grown_trans2 (below_grown ((Below.refl _ _).alloc (Nat.le_refl _) o)) (below_grown ((Below.refl _ _).alloc (Nat.le_refl _) o2))
/-- A block that a store elsewhere leaves. -/
theorem heap_set_ne {w : World} {b k i : Nat} {v : Value} (hne : k ≠ b) : (w.setCell ⟨b, i, none⟩ v).heap[k]? = w.heap[k]? := Below.heap_setCell _ _ _ _ hne
theorem set7_ne {w : World} {b k : Nat} (hne : k ≠ b) (x0 x1 x2 x3 x4 x5 x6 : Value) :
    (((((((w.setCell ⟨b, 0, none⟩ x0).setCell ⟨b, 1, none⟩ x1).setCell ⟨b, 2, none⟩ x2).setCell ⟨b, 3, none⟩ x3).setCell ⟨b, 4, none⟩ x4).setCell ⟨b, 5, none⟩ x5).setCell ⟨b, 6, none⟩ x6).heap[k]? = w.heap[k]? := by
  rw [heap_set_ne hne, heap_set_ne hne, heap_set_ne hne, heap_set_ne hne, heap_set_ne hne, heap_set_ne hne, heap_set_ne hne]
theorem set1_grown {w w3 : World} {rb b i : Nat} {v : Value} (hg : w.grownBy w3 (some rb)) (hb : w.heap.size ≤ b) : w.grownBy (w3.setCell ⟨b, i, none⟩ v) (some rb) :=
  ⟨hg.os, hg.tape, hg.output, by simpa using hg.size, fun k hk hn => (heap_set_ne (by omega)).trans (hg.block k hk hn)⟩
theorem set7_grown {w w3 : World} {rb b : Nat} (hg : w.grownBy w3 (some rb)) (hb : w.heap.size ≤ b) (x0 x1 x2 x3 x4 x5 x6 : Value) :
    w.grownBy (((((((w3.setCell ⟨b, 0, none⟩ x0).setCell ⟨b, 1, none⟩ x1).setCell ⟨b, 2, none⟩ x2).setCell ⟨b, 3, none⟩ x3).setCell ⟨b, 4, none⟩ x4).setCell ⟨b, 5, none⟩ x5).setCell ⟨b, 6, none⟩ x6) (some rb) :=
  set1_grown (set1_grown (set1_grown (set1_grown (set1_grown (set1_grown (set1_grown hg hb) hb) hb) hb) hb) hb) hb
/-- The end: the result's cells are set. -/
theorem mv_close {S S3 : Nat → Prop} {w0 w w3 : World} {rb b : Nat} {r : R7} {v : Sv} {x0 x1 x2 x3 x4 x5 x6 : Value} (hg : w.grownBy w3 (some rb)) (hr : MRun w3 rb r) (hne : rb ≠ b) (hb : w.heap.size ≤ b) (hm : MvIn S3 w0 w3 v [x0, x1, x2, x3, x4, x5, x6]) (hs : ∀ k, S3 k → k ≠ b ∧ (S k ∨ w.heap.size ≤ k)) :
    MvPost S w0 rb (some v, r) w (.returned (.tuple #[.agg #[x0, x1, x2, x3, x4, x5, x6], .bool true])) (((((((w3.setCell ⟨b, 0, none⟩ x0).setCell ⟨b, 1, none⟩ x1).setCell ⟨b, 2, none⟩ x2).setCell ⟨b, 3, none⟩ x3).setCell ⟨b, 4, none⟩ x4).setCell ⟨b, 5, none⟩ x5).setCell ⟨b, 6, none⟩ x6) :=
  ⟨set7_grown hg hb _ _ _ _ _ _ _, (set7_ne hne _ _ _ _ _ _ _).trans hr, _, rfl, hm.keep ⟨fun k hk _ => set7_ne (hs k hk).1 _ _ _ _ _ _ _, fun k hk _ => (hs k hk).2, by simp⟩⟩
theorem mv_close0 {S : Nat → Prop} {w0 w w3 : World} {rb b : Nat} {r : R7} {k : ByteArray} {n : Int} {pp : Option Addr} {pl pc : Nat} {fa : ByteArray} {fp : Option Addr} {fl fc : Nat} {np : Option Addr} {nl nc : Nat} {vp : Option Addr} {vl vc : Nat} (hg : w.grownBy w3 (some rb)) (hr : MRun w3 rb r) (hne : rb ≠ b) (hb : w.heap.size ≤ b) :
    MvPost S w0 rb (none, r) w (.returned (.tuple #[.agg #[.string k, .int .i64 n, .slice pp pl pc, .string fa, .slice fp fl fc, .slice np nl nc, .slice vp vl vc], .bool false])) (((((((w3.setCell ⟨b, 0, none⟩ (.string k)).setCell ⟨b, 1, none⟩ (.int .i64 n)).setCell ⟨b, 2, none⟩ (.slice pp pl pc)).setCell ⟨b, 3, none⟩ (.string fa)).setCell ⟨b, 4, none⟩ (.slice fp fl fc)).setCell ⟨b, 5, none⟩ (.slice np nl nc)).setCell ⟨b, 6, none⟩ (.slice vp vl vc)) :=
  mvPost_none (set7_grown hg hb _ _ _ _ _ _ _) ((set7_ne hne _ _ _ _ _ _ _).trans hr)
theorem kept_grown2 {w0 w w' : World} {rb : Nat} (hk : Kept w0 w) (hz : w0.heap.size ≤ w.heap.size) (hrb : w0.heap.size ≤ rb) (hg : w.grownBy w' (some rb)) : Kept w0 w' :=
  fun k hk2 => (hg.block k (by omega) (fun e => by have : rb = k := by first | exact Option.some.inj e | exact (Option.some.inj e).symm
                                                   omega)).trans (hk k hk2)
theorem off_cell2 {w w' : World} {rb k i : Nat} {v : Value} (hg : w.grownBy w' (some rb)) (hne : k ≠ rb) (h : w.cell? ⟨k, i, none⟩ = some v) : w'.cell? ⟨k, i, none⟩ = some v :=
  (World.cell?_of_block (w := w) (a := ⟨k, i, none⟩) (hg.block k (World.block_lt_of_cell? w _ h) (fun e => hne (by first | exact Option.some.inj e | exact (Option.some.inj e).symm)))).trans h

set_option maxRecDepth 100000 in
set_option maxHeartbeats 4000000 in
theorem me_name {S : Nat → Prop} {w0 w : World} {rb n m bt : Nat} {fl : Bool} {env : List (ByteArray × Sv)} {np : Option Addr} {nl nc gv vc : Nat} (hnm : n = m + 1) (hf2 : n ≤ 1000000000) (hr : MRun w rb ⟨n, bt, fl⟩) (hS : ∀ k, S k → k ≠ rb ∧ k < w.heap.size) (he : EmIn S w0 w env np nl nc gv vc) {a : ByteArray} {v : Sv} (hne : a.size ≠ 0) (hnb : nl ≤ 400000000) (hl : vLook env a.toList = some v) :
    Calls Tryz.prog 7 #[.pointer (some ⟨rb, 0, none⟩), .agg #[.string a, .slice none 0 0], .slice np nl nc, .slice (some ⟨gv, 0, none⟩) nl vc] w (MvPost S w0 rb (some v, ⟨m, bt, fl⟩) w) := by
  have hrl := lt_of_block hr
  have hn0 : ((n : Int) == 0) = false := by simp; omega
  have hs : IntKind.i64.wrap ((n : Int) - 1) = (m : Int) := by rw [IntWalk.i64_in _ (by omega)]; omega
  obtain ⟨W1, hW1⟩ : ∃ W1, W1 = (w.alloc (.cells #[.string a, .slice none 0 0] 27)).alloc (.cells #[.string ({ data := #[] } : ByteArray), .int .i64 0, .slice none 0 0, .string ({ data := #[] } : ByteArray), .slice none 0 0, .slice none 0 0, .slice none 0 0] 34) := ⟨_, rfl⟩
  have hr1 : MRun W1 rb ⟨n, bt, fl⟩ := by rw [hW1]; exact mrun_two hr _ _
  have hg1 : w.grownBy W1 (some rb) := by rw [hW1]; exact two_grown w rb _ _
  have hz1 : W1.heap.size = w.heap.size + 2 := by rw [hW1]; simp
  obtain ⟨c0, c1, c2, d0, d1, d2⟩ := mrun_cells hr1
  simp only at c0 c1 c2
  obtain ⟨W0, hW0⟩ : ∃ W0, W0 = w.setCell ⟨rb, 0, none⟩ (.int .i64 (m : Int)) := ⟨_, rfl⟩
  have hr0 : MRun W0 rb ⟨m, bt, fl⟩ := by rw [hW0]; exact (mrun_set hr).1 m
  have hg0 : w.grownBy W0 (some rb) := by rw [hW0]; exact setCell_grown _
  have hz0 : W0.heap.size = w.heap.size := by rw [hW0]; simp
  obtain ⟨W2, hW2⟩ : ∃ W2, W2 = (W0.alloc (.cells #[.string a, .slice none 0 0] 27)).alloc (.cells #[.string ({ data := #[] } : ByteArray), .int .i64 0, .slice none 0 0, .string ({ data := #[] } : ByteArray), .slice none 0 0, .slice none 0 0, .slice none 0 0] 34) := ⟨_, rfl⟩
  have hr2 : MRun W2 rb ⟨m, bt, fl⟩ := by rw [hW2]; exact mrun_two hr0 _ _
  have hg2 : w.grownBy W2 (some rb) := by rw [hW2]; exact grown_trans2 hg0 (two_grown W0 rb _ _)
  have hz2 : W2.heap.size = w.heap.size + 2 := by rw [hW2, ← hz0]; simp
  obtain ⟨e0, e1, e2, f0, f1, f2⟩ := mrun_cells hr2
  simp only at e0 e1 e2
  have hbx : W2.heap[w.heap.size]? = some (.cells #[.string a, .slice none 0 0] 27 (0, 0)) := by
    rw [hW2, heap_alloc_old _ _ (by simp; omega)]; exact heap_new W0 _ _ hz0.symm
  have hrs : W2.heap[w.heap.size + 1]? = some (.cells #[.string ({ data := #[] } : ByteArray), .int .i64 0, .slice none 0 0, .string ({ data := #[] } : ByteArray), .slice none 0 0, .slice none 0 0, .slice none 0 0] 34 (0, 0)) := by
    rw [hW2]; exact heap_new _ _ _ (by simp; omega)
  obtain ⟨b0, b1, _⟩ := cells_of_pair hbx
  obtain ⟨⟨z0, z1, z2, z3, z4, z5, z6⟩, y0, y1, y2, y3, y4, y5, y6⟩ := cells_of_7 hrs
  have HR2 := hid hr2
  have HR := hid hr
  have HG2 := hid hg2
  have HRS := hid hrs
  have HZ2 := hid hz2
  have HE := hid (he.keep (skept_grown (S' := S) hg2 (fun k hk => (hS k hk).1) (fun _ h => h)))
  have hne2 := isEmpty_not a hne
  have HA := hid (l7Atom_name (w := W2) HE.out hnb hl)
  rw [hW2, hW0] at HA
  clear hr he hr1 hg1 hz1 hr0 hg0 hz0 hr2 hg2 hz2 hbx hrs hnm
  rw [hW2, hW0] at e0 e1 e2 f0 f1 f2 b0 b1 z0 z1 z2 z3 z4 z5 z6 y0 y1 y2 y3 y4 y5 y6
  rw [hW1] at c0 c1 c2 d0 d1 d2
  have HW2 := hid hW2
  have HW0 := hid hW0
  clear hW2 hW1 hW0
  go_enter Tryz.func7, Tryz.ntmps7
  go_wp2_with (go_at_call 16; refine HA.out.mono ?_; rintro e w3 ⟨cs, rfl, hcs, hb3⟩; obtain ⟨kk, nn, pp, pl, pc, fa, fp, fl2, fc, np2, nl2, nc2, vp, vl, vc2, rfl⟩ := hcs.seven; have HCS := hid hcs; clear hcs; have hr3 := HRS.out; rw [HW2.out, HW0.out] at hr3; obtain ⟨⟨t0, t1, t2, t3, t4, t5, t6⟩, s0, s1, s2, s3, s4, s5, s6⟩ := cells_of_7 (block_below hr3 hb3 (by simp)); have HB3 := hid hb3; clear hb3 hr3)
  refine bodyPost_ret (v := .tuple #[.agg #[.string kk, .int .i64 nn, .slice pp pl pc, .string fa, .slice fp fl2 fc, .slice np2 nl2 nc2, .slice vp vl vc2], .bool true]) (by simp [results, Tryz.results7, go_sem, t0, t1, t2, t3, t4, t5, t6]) rfl ?_
  refine mv_close (grown_below HG2.out (by have h := HB3.out; rw [← HW0.out, ← HW2.out] at h; exact h) (by rw [HZ2.out]; omega)) (mrun_below HR2.out (by have h := HB3.out; rw [← HW0.out, ← HW2.out] at h; exact h) (by rw [HZ2.out]; omega)) (by omega) (by omega) (HCS.out.keep (S' := S) ⟨fun k hk hl => ?_, fun _ h _ => h, HB3.out.size⟩) (fun k hk => ⟨by have := (hS k hk).2; omega, .inl hk⟩)
  exact HB3.out.block k (by have := (hS k hk).2; simp; omega)

set_option maxRecDepth 100000 in
set_option maxHeartbeats 4000000 in
theorem me_bit {S : Nat → Prop} {w0 w : World} {rb n m bt : Nat} {fl : Bool} {env : List (ByteArray × Sv)} {np : Option Addr} {nl nc gv vc : Nat} (hnm : n = m + 1) (hf2 : n ≤ 1000000000) (hr : MRun w rb ⟨n, bt, fl⟩) (hS : ∀ k, S k → k ≠ rb ∧ k < w.heap.size) (he : EmIn S w0 w env np nl nc gv vc) {a : ByteArray} {q : Nat} (hne : a.size ≠ 0) (hnb : nl ≤ 400000000) (hs0 : nameB a.toList = false) (hq : (a.toList = [48] ∧ q = 0) ∨ (a.toList = [49] ∧ q = 1)) :
    Calls Tryz.prog 7 #[.pointer (some ⟨rb, 0, none⟩), .agg #[.string a, .slice none 0 0], .slice np nl nc, .slice (some ⟨gv, 0, none⟩) nl vc] w (MvPost S w0 rb (some (.bit q), ⟨m, bt, fl⟩) w) := by
  have hrl := lt_of_block hr
  have hn0 : ((n : Int) == 0) = false := by simp; omega
  have hs : IntKind.i64.wrap ((n : Int) - 1) = (m : Int) := by rw [IntWalk.i64_in _ (by omega)]; omega
  obtain ⟨W1, hW1⟩ : ∃ W1, W1 = (w.alloc (.cells #[.string a, .slice none 0 0] 27)).alloc (.cells #[.string ({ data := #[] } : ByteArray), .int .i64 0, .slice none 0 0, .string ({ data := #[] } : ByteArray), .slice none 0 0, .slice none 0 0, .slice none 0 0] 34) := ⟨_, rfl⟩
  have hr1 : MRun W1 rb ⟨n, bt, fl⟩ := by rw [hW1]; exact mrun_two hr _ _
  have hg1 : w.grownBy W1 (some rb) := by rw [hW1]; exact two_grown w rb _ _
  have hz1 : W1.heap.size = w.heap.size + 2 := by rw [hW1]; simp
  obtain ⟨c0, c1, c2, d0, d1, d2⟩ := mrun_cells hr1
  simp only at c0 c1 c2
  obtain ⟨W0, hW0⟩ : ∃ W0, W0 = w.setCell ⟨rb, 0, none⟩ (.int .i64 (m : Int)) := ⟨_, rfl⟩
  have hr0 : MRun W0 rb ⟨m, bt, fl⟩ := by rw [hW0]; exact (mrun_set hr).1 m
  have hg0 : w.grownBy W0 (some rb) := by rw [hW0]; exact setCell_grown _
  have hz0 : W0.heap.size = w.heap.size := by rw [hW0]; simp
  obtain ⟨W2, hW2⟩ : ∃ W2, W2 = (W0.alloc (.cells #[.string a, .slice none 0 0] 27)).alloc (.cells #[.string ({ data := #[] } : ByteArray), .int .i64 0, .slice none 0 0, .string ({ data := #[] } : ByteArray), .slice none 0 0, .slice none 0 0, .slice none 0 0] 34) := ⟨_, rfl⟩
  have hr2 : MRun W2 rb ⟨m, bt, fl⟩ := by rw [hW2]; exact mrun_two hr0 _ _
  have hg2 : w.grownBy W2 (some rb) := by rw [hW2]; exact grown_trans2 hg0 (two_grown W0 rb _ _)
  have hz2 : W2.heap.size = w.heap.size + 2 := by rw [hW2, ← hz0]; simp
  obtain ⟨e0, e1, e2, f0, f1, f2⟩ := mrun_cells hr2
  simp only at e0 e1 e2
  have hbx : W2.heap[w.heap.size]? = some (.cells #[.string a, .slice none 0 0] 27 (0, 0)) := by
    rw [hW2, heap_alloc_old _ _ (by simp; omega)]; exact heap_new W0 _ _ hz0.symm
  have hrs : W2.heap[w.heap.size + 1]? = some (.cells #[.string ({ data := #[] } : ByteArray), .int .i64 0, .slice none 0 0, .string ({ data := #[] } : ByteArray), .slice none 0 0, .slice none 0 0, .slice none 0 0] 34 (0, 0)) := by
    rw [hW2]; exact heap_new _ _ _ (by simp; omega)
  obtain ⟨b0, b1, _⟩ := cells_of_pair hbx
  obtain ⟨⟨z0, z1, z2, z3, z4, z5, z6⟩, y0, y1, y2, y3, y4, y5, y6⟩ := cells_of_7 hrs
  have HR2 := hid hr2
  have HR := hid hr
  have HG2 := hid hg2
  have HRS := hid hrs
  have HZ2 := hid hz2
  have HE := hid (he.keep (skept_grown (S' := S) hg2 (fun k hk => (hS k hk).1) (fun _ h => h)))
  have hne2 := isEmpty_not a hne
  have HA := hid (l7Atom_bit (w := W2) HE.out hnb hs0 hq)
  rw [hW2, hW0] at HA
  clear hs0 hq
  clear hr he hr1 hg1 hz1 hr0 hg0 hz0 hr2 hg2 hz2 hbx hrs hnm
  rw [hW2, hW0] at e0 e1 e2 f0 f1 f2 b0 b1 z0 z1 z2 z3 z4 z5 z6 y0 y1 y2 y3 y4 y5 y6
  rw [hW1] at c0 c1 c2 d0 d1 d2
  have HW2 := hid hW2
  have HW0 := hid hW0
  clear hW2 hW1 hW0
  go_enter Tryz.func7, Tryz.ntmps7
  go_wp2_with (go_at_call 16; refine HA.out.mono ?_; rintro e w3 ⟨rfl, hb3⟩; have hr3 := HRS.out; rw [HW2.out, HW0.out] at hr3; obtain ⟨⟨t0, t1, t2, t3, t4, t5, t6⟩, s0, s1, s2, s3, s4, s5, s6⟩ := cells_of_7 (block_below hr3 hb3 (by simp)); have HB3 := hid hb3; clear hb3 hr3)
  refine bodyPost_ret (v := .tuple #[.agg #[.string ({ data := #[98, 105, 116] } : ByteArray), .int .i64 (q : Int), .slice none 0 0, .string ({ data := #[] } : ByteArray), .slice none 0 0, .slice none 0 0, .slice none 0 0], .bool true]) (by simp [results, Tryz.results7, go_sem, t0, t1, t2, t3, t4, t5, t6]) rfl ?_
  exact mv_close (S3 := fun _ => False) (grown_below HG2.out (by have h := HB3.out; rw [← HW0.out, ← HW2.out] at h; exact h) (by rw [HZ2.out]; omega)) (mrun_below HR2.out (by have h := HB3.out; rw [← HW0.out, ← HW2.out] at h; exact h) (by rw [HZ2.out]; omega)) (by omega) (by omega) (.bit q) (fun k hk => hk.elim)

set_option maxRecDepth 100000 in
set_option maxHeartbeats 4000000 in
theorem me_get {S : Nat → Prop} {w0 w : World} {rb n m bt : Nat} {fl : Bool} {env : List (ByteArray × Sv)} {np : Option Addr} {nl nc gv vc : Nat} (hnm : n = m + 1) (hf2 : n ≤ 1000000000) (hr : MRun w rb ⟨n, bt, fl⟩) (hS : ∀ k, S k → k ≠ rb ∧ k < w.heap.size) (he : EmIn S w0 w env np nl nc gv vc) {tb tl tc : Nat} {hd : ByteArray} (htl : 0 < tl) (hhd : hd.toList = [103, 101, 116]) (hcell : w.cell? ⟨tb, 0, none⟩ = some (.string hd)) (hne : tb ≠ rb) :
    Calls Tryz.prog 7 #[.pointer (some ⟨rb, 0, none⟩), .agg #[.string ByteArray.empty, .slice (some ⟨tb, 0, none⟩) tl tc], .slice np nl nc, .slice (some ⟨gv, 0, none⟩) nl vc] w (MvPost S w0 rb (some (.bit bt), ⟨m, bt, fl⟩) w) := by
  have hrl := lt_of_block hr
  have hn0 : ((n : Int) == 0) = false := by simp; omega
  have hs : IntKind.i64.wrap ((n : Int) - 1) = (m : Int) := by rw [IntWalk.i64_in _ (by omega)]; omega
  obtain ⟨W1, hW1⟩ : ∃ W1, W1 = (w.alloc (.cells #[.string ByteArray.empty, .slice (some ⟨tb, 0, none⟩) tl tc] 27)).alloc (.cells #[.string ({ data := #[] } : ByteArray), .int .i64 0, .slice none 0 0, .string ({ data := #[] } : ByteArray), .slice none 0 0, .slice none 0 0, .slice none 0 0] 34) := ⟨_, rfl⟩
  have hr1 : MRun W1 rb ⟨n, bt, fl⟩ := by rw [hW1]; exact mrun_two hr _ _
  have hg1 : w.grownBy W1 (some rb) := by rw [hW1]; exact two_grown w rb _ _
  have hz1 : W1.heap.size = w.heap.size + 2 := by rw [hW1]; simp
  obtain ⟨c0, c1, c2, d0, d1, d2⟩ := mrun_cells hr1
  simp only at c0 c1 c2
  obtain ⟨W0, hW0⟩ : ∃ W0, W0 = w.setCell ⟨rb, 0, none⟩ (.int .i64 (m : Int)) := ⟨_, rfl⟩
  have hr0 : MRun W0 rb ⟨m, bt, fl⟩ := by rw [hW0]; exact (mrun_set hr).1 m
  have hg0 : w.grownBy W0 (some rb) := by rw [hW0]; exact setCell_grown _
  have hz0 : W0.heap.size = w.heap.size := by rw [hW0]; simp
  obtain ⟨W2, hW2⟩ : ∃ W2, W2 = (W0.alloc (.cells #[.string ByteArray.empty, .slice (some ⟨tb, 0, none⟩) tl tc] 27)).alloc (.cells #[.string ({ data := #[] } : ByteArray), .int .i64 0, .slice none 0 0, .string ({ data := #[] } : ByteArray), .slice none 0 0, .slice none 0 0, .slice none 0 0] 34) := ⟨_, rfl⟩
  have hr2 : MRun W2 rb ⟨m, bt, fl⟩ := by rw [hW2]; exact mrun_two hr0 _ _
  have hg2 : w.grownBy W2 (some rb) := by rw [hW2]; exact grown_trans2 hg0 (two_grown W0 rb _ _)
  have hz2 : W2.heap.size = w.heap.size + 2 := by rw [hW2, ← hz0]; simp
  obtain ⟨e0, e1, e2, f0, f1, f2⟩ := mrun_cells hr2
  simp only at e0 e1 e2
  have hbx : W2.heap[w.heap.size]? = some (.cells #[.string ByteArray.empty, .slice (some ⟨tb, 0, none⟩) tl tc] 27 (0, 0)) := by
    rw [hW2, heap_alloc_old _ _ (by simp; omega)]; exact heap_new W0 _ _ hz0.symm
  have hrs : W2.heap[w.heap.size + 1]? = some (.cells #[.string ({ data := #[] } : ByteArray), .int .i64 0, .slice none 0 0, .string ({ data := #[] } : ByteArray), .slice none 0 0, .slice none 0 0, .slice none 0 0] 34 (0, 0)) := by
    rw [hW2]; exact heap_new _ _ _ (by simp; omega)
  obtain ⟨b0, b1, _⟩ := cells_of_pair hbx
  obtain ⟨⟨z0, z1, z2, z3, z4, z5, z6⟩, y0, y1, y2, y3, y4, y5, y6⟩ := cells_of_7 hrs
  have HR2 := hid hr2
  have HR := hid hr
  have HG2 := hid hg2
  have HRS := hid hrs
  have HZ2 := hid hz2
  have HE := hid (he.keep (skept_grown (S' := S) hg2 (fun k hk => (hS k hk).1) (fun _ h => h)))
  have q0 : (hd.toList == [103, 101, 116]) = true := by rw [hhd]; rfl
  have q1 : (hd.toList == [102, 97, 105, 108]) = false := by rw [hhd]; rfl
  have q2 : (hd.toList == [108, 97, 109]) = false := by rw [hhd]; rfl
  have kc := off_cell2 hg2 hne hcell
  rw [hW2, hW0] at kc
  clear hhd hcell
  have HBT := hid (fun (W : World) => l7Bit_any (bt : Int) W)
  clear hr he hr1 hg1 hz1 hr0 hg0 hz0 hr2 hg2 hz2 hbx hrs hnm
  rw [hW2, hW0] at e0 e1 e2 f0 f1 f2 b0 b1 z0 z1 z2 z3 z4 z5 z6 y0 y1 y2 y3 y4 y5 y6
  rw [hW1] at c0 c1 c2 d0 d1 d2
  have HW2 := hid hW2
  have HW0 := hid hW0
  clear hW2 hW1 hW0
  go_enter Tryz.func7, Tryz.ntmps7
  go_wp2_with (go_at_call 17; refine (HBT.out _).mono ?_; rintro e w3 ⟨rfl, hb3⟩; have hr3 := HRS.out; rw [HW2.out, HW0.out] at hr3; obtain ⟨⟨t0, t1, t2, t3, t4, t5, t6⟩, s0, s1, s2, s3, s4, s5, s6⟩ := cells_of_7 (block_below hr3 hb3 (by simp)); have HB3 := hid hb3; clear hb3 hr3)
  refine bodyPost_ret (v := .tuple #[.agg #[.string ({ data := #[98, 105, 116] } : ByteArray), .int .i64 (bt : Int), .slice none 0 0, .string ({ data := #[] } : ByteArray), .slice none 0 0, .slice none 0 0, .slice none 0 0], .bool true]) (by simp [results, Tryz.results7, go_sem, t0, t1, t2, t3, t4, t5, t6]) rfl ?_
  exact mv_close (S3 := fun _ => False) (grown_below HG2.out (by have h := HB3.out; rw [← HW0.out, ← HW2.out] at h; exact h) (by rw [HZ2.out]; omega)) (mrun_below HR2.out (by have h := HB3.out; rw [← HW0.out, ← HW2.out] at h; exact h) (by rw [HZ2.out]; omega)) (by omega) (by omega) (.bit bt) (fun k hk => hk.elim)

set_option maxRecDepth 100000 in
set_option maxHeartbeats 4000000 in
theorem me_fail {S : Nat → Prop} {w0 w : World} {rb n m bt : Nat} {fl : Bool} {env : List (ByteArray × Sv)} {np : Option Addr} {nl nc gv vc : Nat} (hnm : n = m + 1) (hf2 : n ≤ 1000000000) (hr : MRun w rb ⟨n, bt, fl⟩) (hS : ∀ k, S k → k ≠ rb ∧ k < w.heap.size) (he : EmIn S w0 w env np nl nc gv vc) {tb tl tc : Nat} {hd : ByteArray} (htl : 0 < tl) (hhd : hd.toList = [102, 97, 105, 108]) (hcell : w.cell? ⟨tb, 0, none⟩ = some (.string hd)) (hne : tb ≠ rb) :
    Calls Tryz.prog 7 #[.pointer (some ⟨rb, 0, none⟩), .agg #[.string ByteArray.empty, .slice (some ⟨tb, 0, none⟩) tl tc], .slice np nl nc, .slice (some ⟨gv, 0, none⟩) nl vc] w (MvPost S w0 rb (none, ⟨m, bt, true⟩) w) := by
  have hrl := lt_of_block hr
  have hn0 : ((n : Int) == 0) = false := by simp; omega
  have hs : IntKind.i64.wrap ((n : Int) - 1) = (m : Int) := by rw [IntWalk.i64_in _ (by omega)]; omega
  obtain ⟨W1, hW1⟩ : ∃ W1, W1 = (w.alloc (.cells #[.string ByteArray.empty, .slice (some ⟨tb, 0, none⟩) tl tc] 27)).alloc (.cells #[.string ({ data := #[] } : ByteArray), .int .i64 0, .slice none 0 0, .string ({ data := #[] } : ByteArray), .slice none 0 0, .slice none 0 0, .slice none 0 0] 34) := ⟨_, rfl⟩
  have hr1 : MRun W1 rb ⟨n, bt, fl⟩ := by rw [hW1]; exact mrun_two hr _ _
  have hg1 : w.grownBy W1 (some rb) := by rw [hW1]; exact two_grown w rb _ _
  have hz1 : W1.heap.size = w.heap.size + 2 := by rw [hW1]; simp
  obtain ⟨c0, c1, c2, d0, d1, d2⟩ := mrun_cells hr1
  simp only at c0 c1 c2
  obtain ⟨W0, hW0⟩ : ∃ W0, W0 = w.setCell ⟨rb, 0, none⟩ (.int .i64 (m : Int)) := ⟨_, rfl⟩
  have hr0 : MRun W0 rb ⟨m, bt, fl⟩ := by rw [hW0]; exact (mrun_set hr).1 m
  have hg0 : w.grownBy W0 (some rb) := by rw [hW0]; exact setCell_grown _
  have hz0 : W0.heap.size = w.heap.size := by rw [hW0]; simp
  obtain ⟨W2, hW2⟩ : ∃ W2, W2 = (W0.alloc (.cells #[.string ByteArray.empty, .slice (some ⟨tb, 0, none⟩) tl tc] 27)).alloc (.cells #[.string ({ data := #[] } : ByteArray), .int .i64 0, .slice none 0 0, .string ({ data := #[] } : ByteArray), .slice none 0 0, .slice none 0 0, .slice none 0 0] 34) := ⟨_, rfl⟩
  have hr2 : MRun W2 rb ⟨m, bt, fl⟩ := by rw [hW2]; exact mrun_two hr0 _ _
  have hg2 : w.grownBy W2 (some rb) := by rw [hW2]; exact grown_trans2 hg0 (two_grown W0 rb _ _)
  have hz2 : W2.heap.size = w.heap.size + 2 := by rw [hW2, ← hz0]; simp
  obtain ⟨e0, e1, e2, f0, f1, f2⟩ := mrun_cells hr2
  simp only at e0 e1 e2
  have hbx : W2.heap[w.heap.size]? = some (.cells #[.string ByteArray.empty, .slice (some ⟨tb, 0, none⟩) tl tc] 27 (0, 0)) := by
    rw [hW2, heap_alloc_old _ _ (by simp; omega)]; exact heap_new W0 _ _ hz0.symm
  have hrs : W2.heap[w.heap.size + 1]? = some (.cells #[.string ({ data := #[] } : ByteArray), .int .i64 0, .slice none 0 0, .string ({ data := #[] } : ByteArray), .slice none 0 0, .slice none 0 0, .slice none 0 0] 34 (0, 0)) := by
    rw [hW2]; exact heap_new _ _ _ (by simp; omega)
  obtain ⟨b0, b1, _⟩ := cells_of_pair hbx
  obtain ⟨⟨z0, z1, z2, z3, z4, z5, z6⟩, y0, y1, y2, y3, y4, y5, y6⟩ := cells_of_7 hrs
  have HR2 := hid hr2
  have HR := hid hr
  have HG2 := hid hg2
  have HRS := hid hrs
  have HZ2 := hid hz2
  have HE := hid (he.keep (skept_grown (S' := S) hg2 (fun k hk => (hS k hk).1) (fun _ h => h)))
  have q0 : (hd.toList == [103, 101, 116]) = false := by rw [hhd]; rfl
  have q1 : (hd.toList == [102, 97, 105, 108]) = true := by rw [hhd]; rfl
  have q2 : (hd.toList == [108, 97, 109]) = false := by rw [hhd]; rfl
  have kc := off_cell2 hg2 hne hcell
  rw [hW2, hW0] at kc
  clear hhd hcell
  clear hr he hr1 hg1 hz1 hr0 hg0 hz0 hr2 hg2 hz2 hbx hrs hnm
  rw [hW2, hW0] at e0 e1 e2 f0 f1 f2 b0 b1 z0 z1 z2 z3 z4 z5 z6 y0 y1 y2 y3 y4 y5 y6
  rw [hW1] at c0 c1 c2 d0 d1 d2
  have HW2 := hid hW2
  have HW0 := hid hW0
  clear hW2 hW1 hW0
  go_enter Tryz.func7, Tryz.ntmps7
  go_wp2_with fail
  refine bodyPost_ret (v := .tuple #[.agg #[.string ({ data := #[] } : ByteArray), .int .i64 0, .slice none 0 0, .string ({ data := #[] } : ByteArray), .slice none 0 0, .slice none 0 0, .slice none 0 0], .bool false]) (by simp [results, Tryz.results7, go_sem]) rfl ?_
  exact mvPost_none (grown_trans2 (grown_trans2 (setCell_grown _) (setCell_grown _)) (two_grown _ rb _ _)) (mrun_two ((mrun_set ((mrun_set HR.out).1 m)).2.2) _ _)

set_option maxRecDepth 100000 in
set_option maxHeartbeats 4000000 in
theorem me_lam {S : Nat → Prop} {w0 w : World} {rb n m bt : Nat} {fl : Bool} {env : List (ByteArray × Sv)} {np : Option Addr} {nl nc gv vc : Nat} (hnm : n = m + 1) (hf2 : n ≤ 1000000000) (hr : MRun w rb ⟨n, bt, fl⟩) (hS : ∀ k, S k → k ≠ rb ∧ k < w.heap.size) (he : EmIn S w0 w env np nl nc gv vc) {tb tl tc : Nat} {hd : ByteArray} (htl : 0 < tl) (hhd : hd.toList = [108, 97, 109]) (hcell : w.cell? ⟨tb, 0, none⟩ = some (.string hd)) (hne : tb ≠ rb) {x : ByteArray} {s : STy} {e : Sx} (ht : TIn w0 (fun _ => True) (Sx.lam x s e).tree ⟨ByteArray.empty, some ⟨tb, 0, none⟩, tl, tc⟩) (hwf : (Sx.lam x s e).wf) :
    Calls Tryz.prog 7 #[.pointer (some ⟨rb, 0, none⟩), .agg #[.string ByteArray.empty, .slice (some ⟨tb, 0, none⟩) tl tc], .slice np nl nc, .slice (some ⟨gv, 0, none⟩) nl vc] w (MvPost S w0 rb (some (.clo x s e env), ⟨m, bt, fl⟩) w) := by
  have hrl := lt_of_block hr
  have hn0 : ((n : Int) == 0) = false := by simp; omega
  have hs : IntKind.i64.wrap ((n : Int) - 1) = (m : Int) := by rw [IntWalk.i64_in _ (by omega)]; omega
  obtain ⟨W1, hW1⟩ : ∃ W1, W1 = (w.alloc (.cells #[.string ByteArray.empty, .slice (some ⟨tb, 0, none⟩) tl tc] 27)).alloc (.cells #[.string ({ data := #[] } : ByteArray), .int .i64 0, .slice none 0 0, .string ({ data := #[] } : ByteArray), .slice none 0 0, .slice none 0 0, .slice none 0 0] 34) := ⟨_, rfl⟩
  have hr1 : MRun W1 rb ⟨n, bt, fl⟩ := by rw [hW1]; exact mrun_two hr _ _
  have hg1 : w.grownBy W1 (some rb) := by rw [hW1]; exact two_grown w rb _ _
  have hz1 : W1.heap.size = w.heap.size + 2 := by rw [hW1]; simp
  obtain ⟨c0, c1, c2, d0, d1, d2⟩ := mrun_cells hr1
  simp only at c0 c1 c2
  obtain ⟨W0, hW0⟩ : ∃ W0, W0 = w.setCell ⟨rb, 0, none⟩ (.int .i64 (m : Int)) := ⟨_, rfl⟩
  have hr0 : MRun W0 rb ⟨m, bt, fl⟩ := by rw [hW0]; exact (mrun_set hr).1 m
  have hg0 : w.grownBy W0 (some rb) := by rw [hW0]; exact setCell_grown _
  have hz0 : W0.heap.size = w.heap.size := by rw [hW0]; simp
  obtain ⟨W2, hW2⟩ : ∃ W2, W2 = (W0.alloc (.cells #[.string ByteArray.empty, .slice (some ⟨tb, 0, none⟩) tl tc] 27)).alloc (.cells #[.string ({ data := #[] } : ByteArray), .int .i64 0, .slice none 0 0, .string ({ data := #[] } : ByteArray), .slice none 0 0, .slice none 0 0, .slice none 0 0] 34) := ⟨_, rfl⟩
  have hr2 : MRun W2 rb ⟨m, bt, fl⟩ := by rw [hW2]; exact mrun_two hr0 _ _
  have hg2 : w.grownBy W2 (some rb) := by rw [hW2]; exact grown_trans2 hg0 (two_grown W0 rb _ _)
  have hz2 : W2.heap.size = w.heap.size + 2 := by rw [hW2, ← hz0]; simp
  obtain ⟨e0, e1, e2, f0, f1, f2⟩ := mrun_cells hr2
  simp only at e0 e1 e2
  have hbx : W2.heap[w.heap.size]? = some (.cells #[.string ByteArray.empty, .slice (some ⟨tb, 0, none⟩) tl tc] 27 (0, 0)) := by
    rw [hW2, heap_alloc_old _ _ (by simp; omega)]; exact heap_new W0 _ _ hz0.symm
  have hrs : W2.heap[w.heap.size + 1]? = some (.cells #[.string ({ data := #[] } : ByteArray), .int .i64 0, .slice none 0 0, .string ({ data := #[] } : ByteArray), .slice none 0 0, .slice none 0 0, .slice none 0 0] 34 (0, 0)) := by
    rw [hW2]; exact heap_new _ _ _ (by simp; omega)
  obtain ⟨b0, b1, _⟩ := cells_of_pair hbx
  obtain ⟨⟨z0, z1, z2, z3, z4, z5, z6⟩, y0, y1, y2, y3, y4, y5, y6⟩ := cells_of_7 hrs
  have HR2 := hid hr2
  have HR := hid hr
  have HG2 := hid hg2
  have HRS := hid hrs
  have HZ2 := hid hz2
  have HE := hid (he.keep (skept_grown (S' := S) hg2 (fun k hk => (hS k hk).1) (fun _ h => h)))
  have q0 : (hd.toList == [103, 101, 116]) = false := by rw [hhd]; rfl
  have q1 : (hd.toList == [102, 97, 105, 108]) = false := by rw [hhd]; rfl
  have q2 : (hd.toList == [108, 97, 109]) = true := by rw [hhd]; rfl
  have kc := off_cell2 hg2 hne hcell
  rw [hW2, hW0] at kc
  clear hhd hcell
  have HT := hid (And.intro ht hwf)
  have HEM := hid he
  clear ht hwf
  clear hr he hr1 hg1 hz1 hr0 hg0 hz0 hr2 hg2 hz2 hbx hrs hnm
  rw [hW2, hW0] at e0 e1 e2 f0 f1 f2 b0 b1 z0 z1 z2 z3 z4 z5 z6 y0 y1 y2 y3 y4 y5 y6
  rw [hW1] at c0 c1 c2 d0 d1 d2
  have HW2 := hid hW2
  have HW0 := hid hW0
  clear hW2 hW1 hW0
  go_enter Tryz.func7, Tryz.ntmps7
  go_wp2_with fail
  refine bodyPost_ret (v := .tuple #[.agg #[.string ({ data := #[102, 117, 110] } : ByteArray), .int .i64 0, .slice none 0 0, .string ByteArray.empty, .slice (some ⟨tb, 0, none⟩) tl tc, .slice np nl nc, .slice (some ⟨gv, 0, none⟩) nl vc], .bool true]) (by simp [results, Tryz.results7, go_sem]) rfl ?_
  have hgf := grown_trans2 (setCell_grown (w := w) (rb := rb) (i := 0) (.int .i64 (m : Int))) (two_grown _ rb (.cells #[.string ByteArray.empty, .slice (some ⟨tb, 0, none⟩) tl tc] 27) (.cells #[.string ({ data := #[102, 117, 110] } : ByteArray), .int .i64 0, .slice none 0 0, .string ByteArray.empty, .slice (some ⟨tb, 0, none⟩) tl tc, .slice np nl nc, .slice (some ⟨gv, 0, none⟩) nl vc] 34))
  obtain ⟨C, hat, hv⟩ := HEM.out.keep (skept_grown (S' := fun k => S k ∨ w.heap.size ≤ k) hgf (fun k hk => (hS k hk).1) (fun _ h => .inl h))
  exact ⟨hgf, mrun_two ((mrun_set HR.out).1 m) _ _, _, rfl, .clo x s e env ⟨ByteArray.empty, some ⟨tb, 0, none⟩, tl, tc⟩ np nl nc gv vc C HT.out.1 HT.out.2 hat hv⟩

set_option maxRecDepth 100000 in
set_option maxHeartbeats 4000000 in
theorem me_zero {S : Nat → Prop} {w0 w : World} {rb bt : Nat} {fl : Bool} {a : ByteArray} {tp : Option Addr} {tl tc : Nat} {np vp : Option Addr} {nl nc vl vc : Nat} (hr : MRun w rb ⟨0, bt, fl⟩) :
    Calls Tryz.prog 7 #[.pointer (some ⟨rb, 0, none⟩), .agg #[.string a, .slice tp tl tc], .slice np nl nc, .slice vp vl vc] w (MvPost S w0 rb (none, ⟨0, bt, fl⟩) w) := by
  have hr1 := mrun_two hr (.cells #[.string a, .slice tp tl tc] 27) (.cells #[.string ({ data := #[] } : ByteArray), .int .i64 0, .slice none 0 0, .string ({ data := #[] } : ByteArray), .slice none 0 0, .slice none 0 0, .slice none 0 0] 34)
  obtain ⟨c0, c1, c2, d0, d1, d2⟩ := mrun_cells hr1
  simp only at c0 c1 c2
  have HR1 := hid hr1
  clear hr hr1
  go_enter Tryz.func7, Tryz.ntmps7
  go_wp2_with fail
  refine bodyPost_ret (v := .tuple #[.agg #[.string ({ data := #[] } : ByteArray), .int .i64 0, .slice none 0 0, .string ({ data := #[] } : ByteArray), .slice none 0 0, .slice none 0 0, .slice none 0 0], .bool false]) (by simp [results, Tryz.results7, go_sem]) rfl ?_
  exact mvPost_none (two_grown _ rb _ _) HR1.out
end Go.Proofs.YtmjhfekcbagibaaGreatDoor
