/- Merged: TypeO, FaultO. -/
import Derived.Sort.QuietIn
import Derived.Test.YtfogjomebcponaaGreatDoorZG61
namespace Go.Proofs.YtfogjomebcponaaGreatDoor
open Go.RowKit Go.Shelf
set_option maxRecDepth 100000
set_option maxHeartbeats 4000000
attribute [local go_sem] Oper.semAt_some
theorem frz {C : Nat} {A B : World} (h : Below C A B) {p : Addr} (hb : p.block < C) : B.frozen? p = A.frozen? p := by
 unfold World.frozen?; rw [h.block _ hb]
theorem cell_new_w (w : World) (v : Value) (t : TypeId) : (w.alloc (.cells #[v] t)).cell? ⟨w.heap.size, 0, none⟩ = some v ∧ (w.alloc (.cells #[v] t)).frozen? ⟨w.heap.size, 0, none⟩ = false := by
 have h := heap_alloc_new w (.cells #[v] t)
 constructor
 ·unfold World.cell?; rw [show (⟨w.heap.size, 0, none⟩ : Addr).block = w.heap.size from rfl, h]; rfl
 ·unfold World.frozen?; rw [show (⟨w.heap.size, 0, none⟩ : Addr).block = w.heap.size from rfl, h]; rfl
def lastV (q : List (Nat × Option Ty)) : Value := match q.getLast? with
 | some x => tyV x.2
 | none => .nilIface
theorem lastV_snoc (q : List (Nat × Option Ty)) (x : Nat × Option Ty) : lastV (q ++ [x]) = tyV x.2 := by
 unfold lastV; rw [List.getLast?_append]; rfl
theorem typeIn_any {S : Nat → Prop} {m : Tm} {b : Nat} {env : List (ByteArray × Ty)} {pe : Option Addr} {w0 w : World} (hn : NIn w0 S m b) (hm : m.tok) (he : EIn w0 S env pe) (hv : EnvS env) (hw : Below w0.heap.size w0 w) :
    Calls Tryz.prog 30 #[.pointer (some ⟨b, 0, none⟩), .pointer pe] w fun e w' => e = .returned (.tuple #[tyV (m.typ env), .bool (m.typ env).isSome]) ∧ Below w.heap.size w w' := by
 refine (callsIn_wide (n := 5)).1 ?_
 refine callsIn_of_wp_marks Tryz.func30 rfl trivial ?_ rfl
 simp only [Tryz.ntmps30, List.size_toArray, List.length_cons, List.length_nil, Nat.reduceAdd, Nat.reduceSub, Array.replicate_succ, Array.replicate_zero, List.push_toArray, List.append_toArray, List.nil_append, List.cons_append]
 gi_wp2_with ((try refine ⟨trivial, ?_⟩); gi_at_call 64; refine (typings_in b pe _ _).mono ?_; rintro e w' ⟨rfl, rfl⟩)
 have hs := cell_new_w w .nilIface 54
 obtain ⟨w1, hw1⟩ : ∃ w1, w.alloc (.cells #[.nilIface] 54) = w1 := ⟨_, rfl⟩
 have hs1 : w1.heap.size = w.heap.size + 1 := by rw [← hw1]; simp
 have hb1 : Below w.heap.size w w1 := by rw [← hw1]; exact (Below.refl _ w).alloc (Nat.le_refl _) _
 rw [hw1] at hs ⊢
 obtain ⟨W1, hW1⟩ : ∃ W1, (w1.alloc (.cells #[.pointer (some ⟨b, 0, none⟩)] 50)).alloc (.cells #[.pointer pe] 47) = W1 := ⟨_, rfl⟩
 have hB1 : Below w1.heap.size w1 W1 := by rw [← hW1]; exact ((Below.refl _ w1).alloc (Nat.le_refl _) _).alloc (by simp) _
 have hS1 : W1.heap.size = w.heap.size + 3 := by rw [← hW1]; simp [hs1]
 have g1 : W1.heap[w1.heap.size]? = some (.cells #[.pointer (some ⟨b, 0, none⟩)] 50 (0, 0)) := by
  rw [← hW1]; exact (Below.heap_alloc _ _ _ (by simp)).trans (heap_alloc_new w1 _)
 have g2 : W1.heap[w1.heap.size + 1]? = some (.cells #[.pointer pe] 47 (0, 0)) := by
  rw [← hW1]; exact hea _ _ _ (by simp)
 have hBW : Below w.heap.size w W1 := hb1.trans (hB1.mono (by omega))
 have c1 : W1.cell? ⟨w.heap.size, 0, none⟩ = some .nilIface := (hB1.cell (p := ⟨w.heap.size, 0, none⟩) (by show w.heap.size < w1.heap.size; omega)).trans hs.1
 have f1 : W1.frozen? ⟨w.heap.size, 0, none⟩ = false := (frz hB1 (p := ⟨w.heap.size, 0, none⟩) (by show w.heap.size < w1.heap.size; omega)).trans hs.2
 have HIT := hid (typings_iter (b := b) (pe := pe) (g1 := w1.heap.size) (g2 := w1.heap.size + 1) (w := W1) 4 hn hm he hv (hw.trans (hBW.mono hw.size)) g1 g2)
 rw [hs1] at HIT
 have hww := hw.size
 rw [hW1]
 clear hW1 hw1 hn hm he hv g1 g2
 refine wpIn_rangeIter (n := 5) (gf := 106) (lb := #[.pointer (some ⟨w.heap.size + 1, 0, none⟩), .pointer (some ⟨w.heap.size + 1 + 1, 0, none⟩)]) rfl (enters_of Tryz.func106 (by kernel_rfl) rfl) (encs := encY) (n0 := w0.heap.size) (by omega) HIT.out (by decide) (fun _ => rfl)
  (fun pre W => W.cell? ⟨w.heap.size, 0, none⟩ = some (lastV pre) ∧ W.frozen? ⟨w.heap.size, 0, none⟩ = false ∧ Below w.heap.size w W)
  (fun _ _ _ => False)
  (fun s A B hs hb => ⟨(hb.cell (p := ⟨w.heap.size, 0, none⟩) (by show w.heap.size < W1.heap.size; omega)).trans hs.1, (frz hb (p := ⟨w.heap.size, 0, none⟩) (by show w.heap.size < W1.heap.size; omega)).trans hs.2.1, hs.2.2.trans (hb.mono (by omega))⟩)
  (fun _ _ _ _ hs _ => hs)
  ⟨c1, f1, hBW⟩
  (fun x => { tmps := #[.pointer (some ⟨b, 0, none⟩), .pointer pe, undef, undef, .nilIface, .bool false, .pointer (some ⟨w.heap.size, 0, none⟩), undef, tyV x.2, .pointer (some ⟨b, 0, none⟩), .pointer pe, .func (.func 106) #[] #[.pointer (some ⟨w.heap.size + 1, 0, none⟩), .pointer (some ⟨w.heap.size + 1 + 1, 0, none⟩)], .pointer (some ⟨x.1, 0, none⟩), tyV x.2, undef, undef, undef, undef], defers := [] }) ?assign ?body ?done ?stop
 case assign =>
  intro l x W K hK
  obtain ⟨k, o⟩ := x
  cases o with
  | none =>
   simp only [tyV, encY] at hK ⊢
   gi_wp2
   exact hK
  | some t =>
   obtain ⟨nt, vt, htv⟩ := t.val_iface
   simp only [tyV, encY, htv] at hK ⊢
   gi_wp2
   exact hK
 case body =>
  rintro l pre x W ⟨hc, hf, hB⟩
  obtain ⟨k, o⟩ := x
  have hA : ∀ v, Apart w0.heap.size (W1.heap.size + 2) W (W.setCell ⟨w.heap.size, 0, none⟩ v) := fun v => Apart.setCell W _ v (by show w0.heap.size ≤ w.heap.size; omega) (by show w.heap.size < W1.heap.size + 2; omega)
  cases o with
  | none =>
   simp only [tyV]
   gi_wp2
   exact ⟨KeepsOthers.setCell _ _ _, hA _, by rw [lastV_snoc]; exact World.cell?_setCell_same' _ _ _ (by rw [hc]; rfl), by rw [World.frozen?_setCell]; exact hf, hB.setCell (p := ⟨w.heap.size, 0, none⟩) (Nat.le_refl _) _⟩
  | some t =>
   obtain ⟨nt, vt, htv⟩ := t.val_iface
   simp only [tyV, htv]
   gi_wp2
   exact ⟨KeepsOthers.setCell _ _ _, hA _, by rw [lastV_snoc, tyV, htv]; exact World.cell?_setCell_same' _ _ _ (by rw [hc]; rfl), by rw [World.frozen?_setCell]; exact hf, hB.setCell (p := ⟨w.heap.size, 0, none⟩) (Nat.le_refl _) _⟩
 case done =>
  rintro D ys W hD hS ⟨hc, _, hB⟩ hK
  cases hmt : m.typ env with
  | none =>
   have hl : lastV ys = .nilIface := by
    unfold Tr at hS; rw [hmt] at hS
    obtain ⟨q', b', f, rfl, _⟩ := hS
    rw [lastV_snoc]; rfl
   rw [hl] at hc
   have HM := hid hmt
   clear hS hl hmt
   gi_wp2
   gi_quiet (fail)
   gi_wp2
   refine ⟨by simp, .inl ⟨_, _, rfl, run_takeDeferred (show (W.drewN nq).heap[D]? = _ from hK), ?_⟩⟩
   exact ⟨_, results_tmp2 rfl _ _ _, by rw [HM.out]; rfl, (hB.trans ((bel W nq).mono hB.size)).trans (belowK_b (w := w) (Nat.le_refl _) _ D _ _ (by omega) (show (W.drewN nq).heap[D]? = _ from hK) rfl rfl)⟩
  | some t =>
   obtain ⟨nt, vt, htv⟩ := t.val_iface
   have hl : lastV ys = .iface nt vt := by
    unfold Tr at hS; rw [hmt] at hS
    obtain ⟨_, q', b', rfl⟩ := hS
    rw [lastV_snoc, tyV, htv]
   rw [hl] at hc
   have HM := hid hmt
   have HTV := hid htv
   clear hS hl hmt htv
   gi_wp2
   gi_quiet (fail)
   gi_wp2
   refine ⟨by simp, .inl ⟨_, _, rfl, run_takeDeferred (show (W.drewN nq).heap[D]? = _ from hK), ?_⟩⟩
   exact ⟨_, results_tmp2 rfl _ _ _, by rw [HM.out, tyV, HTV.out]; rfl, (hB.trans ((bel W nq).mono hB.size)).trans (belowK_b (w := w) (Nat.le_refl _) _ D _ _ (by omega) (show (W.drewN nq).heap[D]? = _ from hK) rfl rfl)⟩
 case stop =>
  rintro D c pre W _ _ h _
  exact h.elim
attribute [local go_sem] Oper.semAt_some
def FltPost (w0 : World) (S : Nat → Prop) (m : Tm) (env : List (ByteArray × Ty)) (w : World) (e : Ending) (w' : World) : Prop :=
 Below w.heap.size w w' ∧ match m.typ env with
  | some _ => e = .returned (.tuple #[.pointer none, .bool false])
  | none => ∃ f b, m.flt env = some f ∧ NIn w0 S f b ∧ e = .returned (.tuple #[.pointer (some ⟨b, 0, none⟩), .bool true])
theorem isAgg_ptr {P : Program} {t e : TypeId} (h : P.underlying t = some (.pointer e)) (w : World) : (isAgg t).run P w = .ok false w := by
 simp [isAgg, run_underlying h]
theorem isAgg_bool {P : Program} {t : TypeId} (h : P.underlying t = some .bool) (w : World) : (isAgg t).run P w = .ok false w := by
 simp [isAgg, run_underlying h]
theorem results_cell2 {fn : Func} {a1 a2 : Tmp} {t1 t2 : TypeId} (h : fn.results = #[.cell a1 t1, .cell a2 t2]) (tmps : Array Value) (P : Program) (w : World) {p1 p2 : Addr} {v1 v2 : Value} (h1 : tmps[a1]?.getD undef = .pointer (some p1)) (h2 : tmps[a2]?.getD undef = .pointer (some p2))
    (g1 : ∀ w, (isAgg t1).run P w = .ok false w) (g2 : ∀ w, (isAgg t2).run P w = .ok false w) (l1 : w.cell? p1 = some v1) (l2 : w.cell? p2 = some v2) :
    (results fn tmps).run P w = .ok (.tuple #[v1, v2]) w := by
 simp [results, h, h1, h2, g1, g2, l1, l2, go_sem]
theorem cell_putObj {W : World} {D : Nat} {o : Obj} {p : Addr} (h : p.block ≠ D) : (W.putObj D o).cell? p = W.cell? p := World.cell?_of_block (w := W) (a := p) (World.putObj_heap_other h)
theorem cell_other {W : World} {p q : Addr} {v : Value} (h : p.block ≠ q.block) : (W.setCell q v).cell? p = W.cell? p := World.cell?_of_block (w := W) (a := p) (Below.heap_setCell W q v p.block h)
theorem faultIn_any {S : Nat → Prop} {m : Tm} {b : Nat} {env : List (ByteArray × Ty)} {pe : Option Addr} {w0 w : World} (hn : NIn w0 S m b) (hm : m.tok) (he : EIn w0 S env pe) (hv : EnvS env) (hw : Below w0.heap.size w0 w) :
    Calls Tryz.prog 36 #[.pointer (some ⟨b, 0, none⟩), .pointer pe] w (FltPost w0 S m env w) := by
 refine (callsIn_wide (n := 5)).1 ?_
 refine callsIn_of_wp_marks Tryz.func36 rfl trivial ?_ rfl
 simp only [Tryz.ntmps36, List.size_toArray, List.length_cons, List.length_nil, Nat.reduceAdd, Nat.reduceSub, Array.replicate_succ, Array.replicate_zero, List.push_toArray, List.append_toArray, List.nil_append, List.cons_append]
 gi_wp2_with ((try refine ⟨trivial, ?_⟩); gi_at_call 64; refine (typings_in b pe _ _).mono ?_; rintro e w' ⟨rfl, rfl⟩)
 have hs0 := cell_new_w w (.pointer none) 50
 obtain ⟨w1, hw1⟩ : ∃ w1, w.alloc (.cells #[.pointer none] 50) = w1 := ⟨_, rfl⟩
 have hs1 : w1.heap.size = w.heap.size + 1 := by rw [← hw1]; simp
 have hb1 : Below w.heap.size w w1 := by rw [← hw1]; exact (Below.refl _ w).alloc (Nat.le_refl _) _
 rw [hw1] at hs0 ⊢
 have hs2 := cell_new_w w1 (.bool false) 4
 obtain ⟨w2, hw2⟩ : ∃ w2, w1.alloc (.cells #[.bool false] 4) = w2 := ⟨_, rfl⟩
 have hz2 : w2.heap.size = w.heap.size + 2 := by rw [← hw2]; simp [hs1]
 have hb2 : Below w1.heap.size w1 w2 := by rw [← hw2]; exact (Below.refl _ w1).alloc (Nat.le_refl _) _
 rw [hw2] at hs2 ⊢
 obtain ⟨W1, hW1⟩ : ∃ W1, (w2.alloc (.cells #[.pointer (some ⟨b, 0, none⟩)] 50)).alloc (.cells #[.pointer pe] 47) = W1 := ⟨_, rfl⟩
 have hB1 : Below w2.heap.size w2 W1 := by rw [← hW1]; exact ((Below.refl _ w2).alloc (Nat.le_refl _) _).alloc (by simp) _
 have hS1 : W1.heap.size = w.heap.size + 4 := by rw [← hW1]; simp [hz2]
 have g1 : W1.heap[w2.heap.size]? = some (.cells #[.pointer (some ⟨b, 0, none⟩)] 50 (0, 0)) := by
  rw [← hW1]; exact (Below.heap_alloc _ _ _ (by simp)).trans (heap_alloc_new w2 _)
 have g2 : W1.heap[w2.heap.size + 1]? = some (.cells #[.pointer pe] 47 (0, 0)) := by
  rw [← hW1]; exact hea _ _ _ (by simp)
 have hb2W : Below w1.heap.size w1 W1 := hb2.trans (hB1.mono (by omega))
 have hBW : Below w.heap.size w W1 := hb1.trans (hb2W.mono (by omega))
 rw [hs1] at hs2
 have c0 : W1.cell? ⟨w.heap.size, 0, none⟩ = some (.pointer none) := (hb2W.cell (p := ⟨w.heap.size, 0, none⟩) (by show w.heap.size < w1.heap.size; omega)).trans hs0.1
 have f0 : W1.frozen? ⟨w.heap.size, 0, none⟩ = false := (frz hb2W (p := ⟨w.heap.size, 0, none⟩) (by show w.heap.size < w1.heap.size; omega)).trans hs0.2
 have c1 : W1.cell? ⟨w.heap.size + 1, 0, none⟩ = some (.bool false) := (hB1.cell (p := ⟨w.heap.size + 1, 0, none⟩) (by show w.heap.size + 1 < w2.heap.size; omega)).trans hs2.1
 have f1 : W1.frozen? ⟨w.heap.size + 1, 0, none⟩ = false := (frz hB1 (p := ⟨w.heap.size + 1, 0, none⟩) (by show w.heap.size + 1 < w2.heap.size; omega)).trans hs2.2
 have HIT := hid (typings_iter (b := b) (pe := pe) (g1 := w2.heap.size) (g2 := w2.heap.size + 1) (w := W1) 4 hn hm he hv (hw.trans (hBW.mono hw.size)) g1 g2)
 rw [hz2] at HIT
 have hww := hw.size
 rw [hW1]
 clear hW1 hw1 hw2 hn hm he hv g1 g2 hs0 hs2 hs1 hz2 hb1 hb2 hb2W hB1 hw
 refine wpIn_rangeIter (n := 5) (gf := 106) (lb := #[.pointer (some ⟨w.heap.size + 1 + 1, 0, none⟩), .pointer (some ⟨w.heap.size + 1 + 1 + 1, 0, none⟩)]) rfl (enters_of Tryz.func106 (by kernel_rfl) rfl) (encs := encY) (n0 := w0.heap.size) (by omega) HIT.out (by decide) (fun _ => rfl)
  (fun pre W => W.cell? ⟨w.heap.size, 0, none⟩ = some (.pointer none) ∧ W.cell? ⟨w.heap.size + 1, 0, none⟩ = some (.bool false) ∧ W.frozen? ⟨w.heap.size, 0, none⟩ = false ∧ W.frozen? ⟨w.heap.size + 1, 0, none⟩ = false ∧ Below w.heap.size w W ∧ Hid (∀ x ∈ pre, x.2 ≠ none))
  (fun c pre W => c = .ret ∧ ∃ b2, Hid ((b2, none) ∈ pre) ∧ W.cell? ⟨w.heap.size, 0, none⟩ = some (.pointer (some ⟨b2, 0, none⟩)) ∧ W.cell? ⟨w.heap.size + 1, 0, none⟩ = some (.bool true) ∧ Below w.heap.size w W)
  (fun s A B hs hb => ⟨(hb.cell (p := ⟨w.heap.size, 0, none⟩) (by show w.heap.size < W1.heap.size; omega)).trans hs.1, (hb.cell (p := ⟨w.heap.size + 1, 0, none⟩) (by show w.heap.size + 1 < W1.heap.size; omega)).trans hs.2.1, (frz hb (p := ⟨w.heap.size, 0, none⟩) (by show w.heap.size < W1.heap.size; omega)).trans hs.2.2.1, (frz hb (p := ⟨w.heap.size + 1, 0, none⟩) (by show w.heap.size + 1 < W1.heap.size; omega)).trans hs.2.2.2.1, hs.2.2.2.2.1.trans (hb.mono (by omega)), hs.2.2.2.2.2⟩)
  (fun c s A B hs hb => ⟨hs.1, hs.2.choose, hs.2.choose_spec.1, (hb.cell (p := ⟨w.heap.size, 0, none⟩) (by show w.heap.size < W1.heap.size; omega)).trans hs.2.choose_spec.2.1, (hb.cell (p := ⟨w.heap.size + 1, 0, none⟩) (by show w.heap.size + 1 < W1.heap.size; omega)).trans hs.2.choose_spec.2.2.1, hs.2.choose_spec.2.2.2.trans (hb.mono (by omega))⟩)
  ⟨c0, c1, f0, f1, hBW, hid (by intro x hx; cases hx)⟩
  (fun x => { tmps := #[.pointer (some ⟨b, 0, none⟩), .pointer pe, undef, undef, .pointer (some ⟨w.heap.size, 0, none⟩), .pointer (some ⟨w.heap.size + 1, 0, none⟩), .pointer (some ⟨x.1, 0, none⟩), tyV x.2, .pointer (some ⟨b, 0, none⟩), .pointer pe, .func (.func 106) #[] #[.pointer (some ⟨w.heap.size + 1 + 1, 0, none⟩), .pointer (some ⟨w.heap.size + 1 + 1 + 1, 0, none⟩)], .pointer (some ⟨x.1, 0, none⟩), tyV x.2, undef, undef, undef], defers := [] }) ?assign ?body ?done ?stop
 case assign =>
  intro l x W K hK
  obtain ⟨k, o⟩ := x
  cases o with
  | none =>
   simp only [tyV, encY] at hK ⊢
   gi_wp2
   exact hK
  | some t =>
   obtain ⟨nt, vt, htv⟩ := t.val_iface
   simp only [tyV, encY, htv] at hK ⊢
   gi_wp2
   exact hK
 case body =>
  rintro l pre x W ⟨hc0, hc1, hf0, hf1, hB, hpre⟩
  obtain ⟨k, o⟩ := x
  cases o with
  | none =>
   simp only [tyV]
   gi_wp2
   refine ⟨(KeepsOthers.setCell _ _ _).trans (KeepsOthers.setCell _ _ _), rfl, k, hid (by simp), ?_, ?_, ?_⟩
   ·exact (cell_other (p := ⟨w.heap.size, 0, none⟩) (q := ⟨w.heap.size + 1, 0, none⟩) (by show w.heap.size ≠ w.heap.size + 1; omega)).trans (World.cell?_setCell_same' _ _ _ (by rw [hc0]; rfl))
   ·refine World.cell?_setCell_same' _ _ _ ?_
    rw [cell_other (p := ⟨w.heap.size + 1, 0, none⟩) (q := ⟨w.heap.size, 0, none⟩) (by show w.heap.size + 1 ≠ w.heap.size; omega), hc1]; rfl
   ·exact (hB.setCell (p := ⟨w.heap.size, 0, none⟩) (Nat.le_refl _) _).setCell (p := ⟨w.heap.size + 1, 0, none⟩) (by show w.heap.size ≤ w.heap.size + 1; omega) _
  | some t =>
   obtain ⟨nt, vt, htv⟩ := t.val_iface
   simp only [tyV, htv]
   gi_wp2
   exact ⟨KeepsOthers.refl _, Apart.refl _ _ _, hc0, hc1, hf0, hf1, hB, hid (by
    intro x hx
    rcases List.mem_append.1 hx with hx | hx
    ·exact hpre.out x hx
    ·simp at hx; subst hx; simp)⟩
 case done =>
  rintro D ys W hD hS ⟨hc0, hc1, _, _, hB, hpre⟩ hK
  cases hmt : m.typ env with
  | none =>
   exfalso
   unfold Tr at hS; rw [hmt] at hS
   obtain ⟨q', b', f, rfl, _⟩ := hS
   exact hpre.out (b', none) (by simp) rfl
  | some t =>
   have HM := hid hmt
   clear hS hmt
   gi_wp2
   have hB2 := (hB.setCell (p := ⟨w.heap.size, 0, none⟩) (Nat.le_refl _) (.pointer none)).setCell (p := ⟨w.heap.size + 1, 0, none⟩) (by show w.heap.size ≤ w.heap.size + 1; omega) (.bool false)
   have hk2 : ((W.setCell ⟨w.heap.size, 0, none⟩ (.pointer none)).setCell ⟨w.heap.size + 1, 0, none⟩ (.bool false)).heap[D]? = some (.deferred (some [])) :=
    ((Below.heap_setCell _ _ _ _ (by show D ≠ w.heap.size + 1; omega)).trans (Below.heap_setCell _ _ _ _ (by show D ≠ w.heap.size; omega))).trans hK
   refine ⟨by simp, .inl ⟨_, _, rfl, run_takeDeferred hk2, ?_⟩⟩
   refine ⟨_, results_cell2 rfl _ _ _ (p1 := ⟨w.heap.size, 0, none⟩) (p2 := ⟨w.heap.size + 1, 0, none⟩) (v1 := .pointer none) (v2 := .bool false) rfl rfl (isAgg_ptr Tryz.underlying50) (isAgg_bool Tryz.underlying4) ?_ ?_, ?_⟩
   ·rw [cell_putObj (by show w.heap.size ≠ D; omega)]
    exact (cell_other (p := ⟨w.heap.size, 0, none⟩) (q := ⟨w.heap.size + 1, 0, none⟩) (by show w.heap.size ≠ w.heap.size + 1; omega)).trans (World.cell?_setCell_same' _ _ _ (by rw [hc0]; rfl))
   ·rw [cell_putObj (by show w.heap.size + 1 ≠ D; omega)]
    refine World.cell?_setCell_same' _ _ _ ?_
    rw [cell_other (p := ⟨w.heap.size + 1, 0, none⟩) (q := ⟨w.heap.size, 0, none⟩) (by show w.heap.size + 1 ≠ w.heap.size; omega), hc1]; rfl
   ·refine ⟨hB2.trans (belowK_b (w := w) (Nat.le_refl _) _ D _ _ (by omega) hk2 rfl rfl), ?_⟩
    rw [HM.out]
 case stop =>
  rintro D c pre W hD hS ⟨rfl, b2, hb2, hc0, hc1, hB⟩ hK
  obtain ⟨f, ht, hf, hnf⟩ := hS b2 hb2.out
  have HT := hid ht
  have HF := hid hf
  have HNF := hid hnf
  clear ht hf hnf hS
  gi_wp2
  refine ⟨by simp, .inl ⟨_, _, rfl, run_takeDeferred hK, ?_⟩⟩
  refine ⟨_, results_cell2 rfl _ _ _ (p1 := ⟨w.heap.size, 0, none⟩) (p2 := ⟨w.heap.size + 1, 0, none⟩) (v1 := .pointer (some ⟨b2, 0, none⟩)) (v2 := .bool true) rfl rfl (isAgg_ptr Tryz.underlying50) (isAgg_bool Tryz.underlying4) ?_ ?_, ?_⟩
  ·rw [cell_putObj (by show w.heap.size ≠ D; omega)]; exact hc0
  ·rw [cell_putObj (by show w.heap.size + 1 ≠ D; omega)]; exact hc1
  ·refine ⟨hB.trans (belowK_b (w := w) (Nat.le_refl _) _ D _ _ (by omega) hK rfl rfl), ?_⟩
   rw [HT.out]
   exact ⟨f, b2, HF.out, HNF.out, rfl⟩
end Go.Proofs.YtfogjomebcponaaGreatDoor
