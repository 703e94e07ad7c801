/- Merged: MvE. -/
import Derived.Test.YtmjhfekcbagibaaGreatDoorEV28
import Derived.Test.YtmjhfekcbagibaaGreatDoorEV14
namespace Go.Proofs.YtmjhfekcbagibaaGreatDoor
open Go.RowKit

theorem mv_clo {S : Nat → Prop} {w0 w : World} {x : ByteArray} {s : STy} {e : Sx} {env : List (ByteArray × Sv)} {cs : List Value} (h : MvIn S w0 w (.clo x s e env) cs) :
    ∃ (tb cap : Nat) (hb : Hd) (np : Option Addr) (n nc gv vc : Nat) (C : Nat → List Value), cs = [.string ({ data := #[102, 117, 110] } : ByteArray), .int .i64 0, .slice none 0 0, .string ByteArray.empty, .slice (some ⟨tb, 0, none⟩) 4 cap, .slice np n nc, .slice (some ⟨gv, 0, none⟩) n vc] ∧
      w0.cell? ⟨tb, 2, none⟩ = some (.string x) ∧ w0.cell? ⟨tb, 6, none⟩ = some (.string hb.a) ∧ w0.cell? ⟨tb, 7, none⟩ = some (.slice hb.p hb.l hb.c) ∧ TIn w0 (fun _ => True) e.tree hb ∧ (Sx.lam x s e).wf ∧
      NvAt S w env np n nc gv vc C ∧ ∀ (i : Nat) (y : ByteArray) (v : Sv), env.reverse[i]? = some (y, v) → MvIn S w0 w v (C i) := by
  cases h with
  | clo _ _ _ _ h np n nc gv vc C ht hwf hat hv =>
    cases ht with
    | node ps b cap A hp hl hc hS hA hB hps =>
      have h1 := hps 1 (.atom x) rfl
      have hx : (A 1).a = x := by
        generalize A 1 = z at h1
        cases h1; rfl
      have c2 := hA 1 (by simp)
      rw [hx] at c2
      exact ⟨b, cap, A 3, np, n, nc, gv, vc, C, rfl, c2, hA 3 (by simp), hB 3 (by simp), hps 3 e.tree rfl, hwf, hat, hv⟩
theorem mv_one {S : Nat → Prop} {w0 w : World} {v : Sv} {cs : List Value} (h : MvIn S w0 w v cs) : cs.length = 7 ∧ ∀ u ∈ cs, u.oneCell' = true := by
  obtain ⟨kk, nn, pp, pl, pc, fa, fp, fl2, fc, np2, nl2, nc2, vp, vl, vc2, rfl⟩ := h.seven
  exact ⟨rfl, by simp [Value.oneCell']⟩
/-- One more name. -/
theorem em_cons {Sa Sb S' : Nat → Prop} {w0 wa wb W : World} {cenv : List (ByteArray × Sv)} {np : Option Addr} {n nc gv vc : Nat} {C : Nat → List Value} {x : ByteArray} {u : Sv} {cs2 : List Value} {q5 : Option Addr} {c5 g6 c6 : Nat}
    (hat : NvAt Sa wa cenv np n nc gv vc C) (hv : ∀ (i : Nat) (y : ByteArray) (v : Sv), cenv.reverse[i]? = some (y, v) → MvIn Sa w0 wa v (C i)) (ka : SKept Sa S' wa W) (hu : MvIn Sb w0 wb u cs2) (kb : SKept Sb S' wb W)
    (hx : nameB x.toList = true) (hsv : SV W q5 (n + 1) c5 (nsV cenv ++ [x])) (hq : ∀ g o, q5 = some ⟨g, o, none⟩ → S' g ∧ g < W.heap.size) (hg : S' g6 ∧ g6 < W.heap.size)
    (hr : ∀ i, i < n → ∀ j u, (C i)[j]? = some u → W.cell? ⟨g6, i * 7 + j, none⟩ = some u) (hl : ∀ j u, cs2[j]? = some u → W.cell? ⟨g6, n * 7 + j, none⟩ = some u) : EmIn S' w0 W ((x, u) :: cenv) q5 (n + 1) c5 g6 c6 := by
  refine ⟨fun i => if i < n then C i else cs2, ⟨by simp [hat.len], by rw [nsV_cons]; exact hsv, fun g o e => (hq g o e).1, fun g o e => (hq g o e).2, hg.1, hg.2, fun i hi => ?_, fun y hy => ?_⟩, fun i y v hi => ?_⟩
  · by_cases h : i < n
    · rw [if_pos h]; exact ⟨(hat.row i h).1, hr i h⟩
    · obtain rfl : i = n := by omega
      rw [if_neg h]; exact ⟨(mv_one hu).1, hl⟩
  · rcases List.mem_cons.1 hy with rfl | hy
    · exact hx
    · exact hat.nmb y hy
  · rw [List.reverse_cons] at hi
    have hlr : cenv.reverse.length = n := by rw [List.length_reverse, hat.len]
    by_cases h : i < n
    · rw [List.getElem?_append_left (by omega)] at hi
      simp only [if_pos h]; exact (hv i y v hi).keep ka
    · rw [List.getElem?_append_right (by omega), hlr] at hi
      obtain rfl : i = n := by
        have := (List.getElem?_eq_some_iff.1 hi).1
        simp at this; omega
      simp at hi
      obtain ⟨rfl, rfl⟩ := hi
      simp only [if_neg h]; exact hu.keep kb
theorem own_sv {w : World} {base n c : Nat} {q : Option Addr} {l : List ByteArray} (h : w.ownsRow base 9 1 (.slice q n c) n (l.map Value.string)) (hl : l.length = n) (hn : 0 < n) : SV w q n c l ∧ ∃ g, q = some ⟨g, 0, none⟩ ∧ base ≤ g ∧ g < w.heap.size := by
  rcases h.2 with ⟨hv, h0⟩ | ⟨g, cap, cur, hv, hbg, hbk, _⟩
  · omega
  · obtain ⟨rfl, rfl⟩ : q = some ⟨g, 0, none⟩ ∧ c = cap := by simp at hv; exact hv
    refine ⟨⟨hl, by simp, fun i s hs => ⟨g, rfl, ?_⟩⟩, g, rfl, hbg, lt_of_block hbk⟩
    have hc := h.cells (g := g) rfl i (.string s) (by rw [List.getElem?_map, hs]; rfl)
    have hadd : (⟨g, 0, none⟩ : Addr).add i = ⟨g, i, none⟩ := by unfold Addr.add; split <;> simp_all
    rw [hadd] at hc; exact hc
theorem mv_close_any2 {S Sx : Nat → Prop} {w0 w W w4 : World} {rb b : Nat} {x : Option Sv × R7} {x0 x1 x2 x3 x4 x5 x6 : Value} {bb : Bool} (hgW : w.grownBy W (some rb)) (hp : MvPost Sx w0 rb x W (.returned (.tuple #[.agg #[x0, x1, x2, x3, x4, x5, x6], .bool bb])) w4) (hS : ∀ k, Sx k ∨ W.heap.size ≤ k → k ≠ b ∧ (S k ∨ w.heap.size ≤ k)) (hne : rb ≠ b) (hb : w.heap.size ≤ b) :
    MvPost S w0 rb x w (.returned (.tuple #[.agg #[x0, x1, x2, x3, x4, x5, x6], .bool bb])) (((((((w4.setCell ⟨b, 0, none⟩ x0).setCell ⟨b, 1, none⟩ x1).setCell ⟨b, 2, none⟩ x2).setCell ⟨b, 3, none⟩ x3).setCell ⟨b, 4, none⟩ x4).setCell ⟨b, 5, none⟩ x5).setCell ⟨b, 6, none⟩ x6) := by
  obtain ⟨h1, h2, h3⟩ := hp
  have hg := grown_trans2 hgW h1
  refine ⟨set7_grown hg hb _ _ _ _ _ _ _, (set7_ne hne _ _ _ _ _ _ _).trans h2, ?_⟩
  obtain ⟨o, r⟩ := x
  cases o with
  | none => exact h3
  | some v =>
    obtain ⟨cs, e1, hm⟩ := h3
    exact ⟨cs, e1, hm.keep ⟨fun k hk _ => set7_ne (hS k hk).1 _ _ _ _ _ _ _, fun k hk _ => (hS k hk).2, by simp⟩⟩
theorem app_S {S : Nat → Prop} {w : World} {rb N : Nat} (hS : ∀ k, S k → k ≠ rb ∧ k < w.heap.size) (hrl : rb < w.heap.size) : ∀ k, (S k ∨ w.heap.size + 2 ≤ k) ∧ k < N → k ≠ rb ∧ k < N :=
  fun k hk => ⟨by rcases hk.1 with h | h
                  · exact (hS k h).1
                  · omega, hk.2⟩
theorem app_kb {S : Nat → Prop} {w w3 w4 w6 : World} {o o2 : Obj} {rb : Nat} (hS : ∀ k, S k → k ≠ rb ∧ k < w.heap.size) (hrl : rb < w.heap.size) (hz : w.heap.size + 1 < w3.heap.size) (hg : (w4.alloc o2).grownBy w6 (some rb)) :
    SKept (fun k => S k ∨ (w3.alloc o).heap.size ≤ k) (fun k => (S k ∨ w.heap.size + 2 ≤ k) ∧ k < w6.heap.size) w4 w6 := by
  have hs := hg.size
  simp at hs
  refine ⟨fun k hk hl => (hg.block k (by simp; omega) (ne_some ?_)).trans (heap_alloc_old _ _ hl), fun k hk hl => ⟨?_, by omega⟩, by omega⟩
  · rcases hk with hk | hk
    · exact (hS k hk).1
    · simp at hk; omega
  · rcases hk with hk | hk
    · exact .inl hk
    · simp at hk; exact .inr (by omega)
theorem app_q {S : Nat → Prop} {w : World} {q5 : Option Addr} {g o gq5 N : Nat} (hq : q5 = some ⟨gq5, 0, none⟩) (e : q5 = some ⟨g, o, none⟩) (h1 : w.heap.size + 2 ≤ gq5) (h2 : gq5 < N) : ((S g ∨ w.heap.size + 2 ≤ g) ∧ g < N) ∧ g < N := by
  rw [hq] at e
  have : gq5 = g := by simp at e; exact e.1
  subst this
  exact ⟨⟨.inr h1, h2⟩, h2⟩
theorem app_more {S : Nat → Prop} {w0 w w3 w4 w5 : World} {o o2 : Obj} {rb : Nat} {cenv : List (ByteArray × Sv)} {npc : Option Addr} {nn3 ncc gvc vcc : Nat} {C : Nat → List Value} {x : ByteArray} {u : Sv} {q5 : Option Addr} {c5 gq5 : Nat} (kkb : ByteArray) (nnb : Int) (ppb : Option Addr) (plb pcb : Nat) (fab : ByteArray) (fpb : Option Addr) (fl2b fcb : Nat) (np2b : Option Addr) (nl2b nc2b : Nat) (vpb : Option Addr) (vlb vc2b : Nat)
    (hS : ∀ k, S k → k ≠ rb ∧ k < w.heap.size) (hrl : rb < w.heap.size) (hz3 : w.heap.size + 1 < w3.heap.size) (h34 : w3.heap.size < w4.heap.size)
    (HKA : ∀ W, (w4.alloc o2).grownBy W (some rb) → SKept (fun k => S k ∨ w.heap.size + 2 ≤ k) (fun k => S k ∨ w.heap.size + 2 ≤ k) w3 W)
    (hat : NvAt (fun k => S k ∨ w.heap.size + 2 ≤ k) w3 cenv npc nn3 ncc gvc vcc C) (hv : ∀ (i : Nat) (y : ByteArray) (v : Sv), cenv.reverse[i]? = some (y, v) → MvIn (fun k => S k ∨ w.heap.size + 2 ≤ k) w0 w3 v (C i))
    (hm4 : MvIn (fun k => S k ∨ (w3.alloc o).heap.size ≤ k) w0 w4 u [.string kkb, .int .i64 nnb, .slice ppb plb pcb, .string fab, .slice fpb fl2b fcb, .slice np2b nl2b nc2b, .slice vpb vlb vc2b]) (hx : nameB x.toList = true) (hn : nn3 ≤ 100000)
    (hb5 : Below (w4.alloc o2).heap.size (w4.alloc o2) w5) (hsv5 : SV w5 q5 (nn3 + 1) c5 (nsV cenv ++ [x])) (hq5 : q5 = some ⟨gq5, 0, none⟩) (hgl5 : w4.heap.size ≤ gq5) (hgu5 : gq5 < w5.heap.size) :
    Calls Tryz.prog 19 #[.slice (some ⟨gvc, 0, none⟩) nn3 vcc, .agg #[.string kkb, .int .i64 nnb, .slice ppb plb pcb, .string fab, .slice fpb fl2b fcb, .slice np2b nl2b nc2b, .slice vpb vlb vc2b]] w5 fun e w6 => ∃ g6 c6, e = .returned (.slice (some ⟨g6, 0, none⟩) (nn3 + 1) c6) ∧ Below (w4.alloc o2).heap.size (w4.alloc o2) w6 ∧ EmIn (fun k => (S k ∨ w.heap.size + 2 ≤ k) ∧ k < w6.heap.size) w0 w6 ((x, u) :: cenv) q5 (nn3 + 1) c5 g6 c6 := by
  have hone : ∀ i, i < nn3 → ∀ u ∈ C i, u.oneCell' = true := fun i hi u hu => by
    obtain ⟨y, v', hr, _, _⟩ := rev_at (env := cenv) (k := i) (by rw [hat.len]; exact hi)
    exact (mv_one (hv i y v' hr)).2 u hu
  have h5 := hb5.size
  simp at h5
  refine (l7More_any (C := C) (n := nn3) (by omega) (fun i hi => (hat.row i hi).1) (fun i hi => ((hat.keep (HKA w5 (below_grown hb5))).row i hi).2) hone kkb nnb ppb plb pcb fab fpb fl2b fcb np2b nl2b nc2b vpb vlb vc2b).mono ?_
  rintro e w6 ⟨g6, c6, rfl, hg6, hgu6, hb6, hr6, hl6⟩
  have hb06 : Below (w4.alloc o2).heap.size (w4.alloc o2) w6 := hb5.trans (hb6.mono hb5.size)
  have hk := HKA w6 (below_grown hb06)
  have h6 := hb6.size
  exact ⟨g6, c6, rfl, hb06, em_cons (S' := fun k => (S k ∨ w.heap.size + 2 ≤ k) ∧ k < w6.heap.size) hat hv ⟨hk.blk, fun k hk2 hl => ⟨hk2, Nat.lt_of_lt_of_le hl hk.siz⟩, hk.siz⟩ hm4 (app_kb hS hrl hz3 (below_grown hb06)) hx (hsv5.kept (Kept.of_below hb6 (Nat.le_refl _))) (fun g o e => app_q hq5 e (by omega) (by omega)) ⟨⟨.inr (by omega), hgu6⟩, hgu6⟩ hr6 hl6⟩
theorem keep_set7 {W : World} {b g i : Nat} {u y0 y1 y2 y3 y4 y5 y6 : Value} (hne : g ≠ b) (h : W.cell? ⟨g, i, none⟩ = some u) :
    (((((((W.setCell ⟨b, 0, none⟩ y0).setCell ⟨b, 1, none⟩ y1).setCell ⟨b, 2, none⟩ y2).setCell ⟨b, 3, none⟩ y3).setCell ⟨b, 4, none⟩ y4).setCell ⟨b, 5, none⟩ y5).setCell ⟨b, 6, none⟩ y6).cell? ⟨g, i, none⟩ = some u :=
  (World.cell?_of_block (w := W) (a := ⟨g, i, none⟩) (set7_ne hne _ _ _ _ _ _ _)).trans h
/-- The names with one behind. -/
theorem with_name {W : World} {npc : Option Addr} {n ncc g : Nat} {l : List ByteArray} {x : ByteArray} (h1 : SV W npc n ncc l) (hn : n ≤ 100000) (hx : W.heap[g]? = some (.cells #[.string x] 9 (0, 0))) :
    Calls Tryz.prog 18 #[.slice npc n ncc, .slice (some ⟨g, 0, none⟩) 1 1] W fun e w' => ∃ q c gq, e = .returned (.slice q (n + 1) c) ∧ SV w' q (n + 1) c (l ++ [x]) ∧ q = some ⟨gq, 0, none⟩ ∧ W.heap.size ≤ gq ∧ gq < w'.heap.size ∧ Below W.heap.size W w' := by
  have h2 : SV W (some ⟨g, 0, none⟩) 1 1 [x] := ⟨rfl, by simp, fun i s hs => by
    cases i with
    | zero => simp at hs; subst hs; exact ⟨g, rfl, by simp [World.cell?, hx]⟩
    | succ i => simp at hs⟩
  refine (l2With_any l [x] npc (some ⟨g, 0, none⟩) n 1 ncc 1 W h1 h2 hn (by omega)).mono ?_
  rintro e w' ⟨q, c, rfl, ho, hb⟩
  have hl : (l ++ [x]).length = n + 1 := by simp [h1.1]
  rw [hl] at ho ⊢
  obtain ⟨hs, gq, e1, h3, h4⟩ := own_sv ho hl (by omega)
  exact ⟨q, c, gq, rfl, hs, e1, h3, h4, hb⟩

set_option maxRecDepth 100000 in
set_option maxHeartbeats 4000000 in
theorem mp_app {S : Nat → Prop} {w0 w : World} {rb n m bt : Nat} {fl : Bool} {np : Option Addr} {nl nc gv vc : Nat} (hnm : n = m + 1) (hf2 : n ≤ 1000000000) (hr : MRun w rb ⟨n, bt, fl⟩) (hS : ∀ k, S k → k ≠ rb ∧ k < w.heap.size) {tb tc : Nat} {hd : ByteArray} (hcell : w.cell? ⟨tb, 0, none⟩ = some (.string hd)) (hne : tb ≠ rb) {a1 : ByteArray} {p1 : Option Addr} {l1 k1 : Nat} (hc1 : w.cell? ⟨tb, 2, none⟩ = some (.string a1)) (hd1 : w.cell? ⟨tb, 3, none⟩ = some (.slice p1 l1 k1)) {a2 : ByteArray} {p2 : Option Addr} {l2 k2 : Nat} (hc2 : w.cell? ⟨tb, 4, none⟩ = some (.string a2)) (hd2 : w.cell? ⟨tb, 5, none⟩ = some (.slice p2 l2 k2)) (hhd : hd.toList = [97, 112, 112]) {r1 r2 : R7} {x : ByteArray} {s : STy} {e : Sx} {cenv : List (ByteArray × Sv)} {u : Sv} {X : Option Sv × R7} (hkk : Kept w0 w) (hzz : w0.heap.size ≤ w.heap.size) (hrr : w0.heap.size ≤ rb) (hcl : cenv.length ≤ 100000) (H2 : ∀ W, w.grownBy W (some rb) → MRun W rb r1 → Calls Tryz.prog 7 #[.pointer (some ⟨rb, 0, none⟩), .agg #[.string a2, .slice p2 l2 k2], .slice np nl nc, .slice (some ⟨gv, 0, none⟩) nl vc] W (MvPost S w0 rb (some u, r2) W))
    (H3 : ∀ (S' : Nat → Prop) (W : World) (hb : Hd) (np' : Option Addr) (n' nc' gv' vc' : Nat), (∀ k, S' k → k ≠ rb ∧ k < W.heap.size) → w.grownBy W (some rb) → MRun W rb r2 → TIn w0 (fun _ => True) e.tree hb → (Sx.lam x s e).wf → EmIn S' w0 W ((x, u) :: cenv) np' n' nc' gv' vc' → Calls Tryz.prog 7 #[.pointer (some ⟨rb, 0, none⟩), .agg #[.string hb.a, .slice hb.p hb.l hb.c], .slice np' n' nc', .slice (some ⟨gv', 0, none⟩) n' vc'] W (MvPost S' w0 rb X W))
    (H1 : ∀ W, w.grownBy W (some rb) → MRun W rb ⟨m, bt, fl⟩ → Calls Tryz.prog 7 #[.pointer (some ⟨rb, 0, none⟩), .agg #[.string a1, .slice p1 l1 k1], .slice np nl nc, .slice (some ⟨gv, 0, none⟩) nl vc] W (MvPost S w0 rb (some (.clo x s e cenv), r1) W)) :
    Calls Tryz.prog 7 #[.pointer (some ⟨rb, 0, none⟩), .agg #[.string ByteArray.empty, .slice (some ⟨tb, 0, none⟩) 3 tc], .slice np nl nc, .slice (some ⟨gv, 0, none⟩) nl vc] w (MvPost S w0 rb X w) := by
  have hrl := lt_of_block hr
  have hn0 : ((n : Int) == 0) = false := by simp; omega
  have hs : IntKind.i64.wrap ((n : Int) - 1) = (m : Int) := by rw [IntWalk.i64_in _ (by omega)]; omega
  obtain ⟨W1, hW1⟩ : ∃ W1, W1 = (w.alloc (.cells #[.string ByteArray.empty, .slice (some ⟨tb, 0, none⟩) 3 tc] 27)).alloc (.cells #[.string ({ data := #[] } : ByteArray), .int .i64 0, .slice none 0 0, .string ({ data := #[] } : ByteArray), .slice none 0 0, .slice none 0 0, .slice none 0 0] 34) := ⟨_, rfl⟩
  have hr1 : MRun W1 rb ⟨n, bt, fl⟩ := by rw [hW1]; exact mrun_two hr _ _
  obtain ⟨c0, c1, c2, d0, d1, d2⟩ := mrun_cells hr1
  simp only at c0 c1 c2
  obtain ⟨W0, hW0⟩ : ∃ W0, W0 = w.setCell ⟨rb, 0, none⟩ (.int .i64 (m : Int)) := ⟨_, rfl⟩
  have hr0 : MRun W0 rb ⟨m, bt, fl⟩ := by rw [hW0]; exact (mrun_set hr).1 m
  have hg0 : w.grownBy W0 (some rb) := by rw [hW0]; exact setCell_grown _
  have hz0 : W0.heap.size = w.heap.size := by rw [hW0]; simp
  obtain ⟨W2, hW2⟩ : ∃ W2, W2 = (W0.alloc (.cells #[.string ByteArray.empty, .slice (some ⟨tb, 0, none⟩) 3 tc] 27)).alloc (.cells #[.string ({ data := #[] } : ByteArray), .int .i64 0, .slice none 0 0, .string ({ data := #[] } : ByteArray), .slice none 0 0, .slice none 0 0, .slice none 0 0] 34) := ⟨_, rfl⟩
  have hr2 : MRun W2 rb ⟨m, bt, fl⟩ := by rw [hW2]; exact mrun_two hr0 _ _
  have hg2 : w.grownBy W2 (some rb) := by rw [hW2]; exact grown_trans2 hg0 (two_grown W0 rb _ _)
  have hz2 : W2.heap.size = w.heap.size + 2 := by rw [hW2, ← hz0]; simp
  obtain ⟨e0, e1, e2, f0, f1, f2⟩ := mrun_cells hr2
  simp only at e0 e1 e2
  have hbx : W2.heap[w.heap.size]? = some (.cells #[.string ByteArray.empty, .slice (some ⟨tb, 0, none⟩) 3 tc] 27 (0, 0)) := by
    rw [hW2, heap_alloc_old _ _ (by simp; omega)]; exact heap_new W0 _ _ hz0.symm
  have hrs : W2.heap[w.heap.size + 1]? = some (.cells #[.string ({ data := #[] } : ByteArray), .int .i64 0, .slice none 0 0, .string ({ data := #[] } : ByteArray), .slice none 0 0, .slice none 0 0, .slice none 0 0] 34 (0, 0)) := by
    rw [hW2]; exact heap_new _ _ _ (by simp; omega)
  obtain ⟨b0, b1, _⟩ := cells_of_pair hbx
  obtain ⟨⟨z0, z1, z2, z3, z4, z5, z6⟩, y0, y1, y2, y3, y4, y5, y6⟩ := cells_of_7 hrs
  have kh := off_cell2 hg2 hne hcell
  have kc1 := off_cell2 hg2 hne hc1
  have kd1 := off_cell2 hg2 hne hd1
  have kc2 := off_cell2 hg2 hne hc2
  have kd2 := off_cell2 hg2 hne hd2
  have HCL := hid ((H1 W2 hg2 hr2).mono fun e w4 h => mvPost_some h hz2)
  have HG2 := hid hg2
  have HZ2 := hid hz2
  have HK3 := hid (fun (W : World) (h : W2.grownBy W (some rb)) => (show W.heap[w.heap.size + 1]? = some (.cells #[.string ({ data := #[] } : ByteArray), .int .i64 0, .slice none 0 0, .string ({ data := #[] } : ByteArray), .slice none 0 0, .slice none 0 0, .slice none 0 0] 34 (0, 0)) ∧ W.cell? ⟨tb, 0, none⟩ = some (.string hd) ∧ W.cell? ⟨tb, 2, none⟩ = some (.string a1) ∧ W.cell? ⟨tb, 3, none⟩ = some (.slice p1 l1 k1) ∧ W.cell? ⟨tb, 4, none⟩ = some (.string a2) ∧ W.cell? ⟨tb, 5, none⟩ = some (.slice p2 l2 k2) ∧ w.heap.size + 1 < W.heap.size ∧ tb < W.heap.size ∧ Hid (w.grownBy W (some rb)) from
    ⟨(h.block _ (by omega) (fun e => by have : w.heap.size + 1 = rb := by first | exact Option.some.inj e | exact (Option.some.inj e).symm
                                        omega)).trans hrs, off_cell2 h hne kh, off_cell2 h hne kc1, off_cell2 h hne kd1, off_cell2 h hne kc2, off_cell2 h hne kd2, by have := h.size; omega, World.block_lt_of_cell? W _ (off_cell2 h hne kh), hid (grown_trans2 hg2 h)⟩))
  have q0 : (hd.toList == [103, 101, 116]) = false := by rw [hhd]; rfl
  have q1 : (hd.toList == [102, 97, 105, 108]) = false := by rw [hhd]; rfl
  have q2 : (hd.toList == [108, 97, 109]) = false := by rw [hhd]; rfl
  have q3 : (hd.toList == [105, 102]) = false := by rw [hhd]; rfl
  have q4 : (hd.toList == [102, 115, 116]) = false := by rw [hhd]; rfl
  have q5 : (hd.toList == [115, 110, 100]) = false := by rw [hhd]; rfl
  have q6 : (hd.toList == [112, 117, 116]) = false := by rw [hhd]; rfl
  have q7 : (hd.toList == [112, 97, 105, 114]) = false := by rw [hhd]; rfl
  have HC2 := hid H2
  have HC3 := hid H3
  have HKK := hid hkk
  clear H2 H3 hkk
  clear hr hr1 hr0 hg0 hz0 hr2 hg2 hz2 hbx hrs hnm hcell hc1 hd1 hc2 hd2 H1 hhd
  rw [hW2, hW0] at e0 e1 e2 f0 f1 f2 b0 b1 z0 z1 z2 z3 z4 z5 z6 y0 y1 y2 y3 y4 y5 y6 kh kc1 kd1 kc2 kd2 HCL HK3
  rw [hW1] at c0 c1 c2 d0 d1 d2
  have HW2 := hid hW2
  have HW0 := hid hW0
  clear hW2 hW1 hW0
  go_enter Tryz.func7, Tryz.ntmps7
  go_wp2_with (first
    | (have _ := HG3; go_at_call 7; refine (HC2.out _ (grown_below hgw3.out ((Below.refl _ _).alloc (Nat.le_refl _) _) hgw3.out.size) (mrun_below HR3.out ((Below.refl _ _).alloc (Nat.le_refl _) _) hrl3)).mono ?_; rintro e w4 hp; obtain ⟨csb, rfl, hg4x, hr4, hm4⟩ := mvPost_some hp rfl; obtain ⟨kkb, nnb, ppb, plb, pcb, fab, fpb, fl2b, fcb, np2b, nl2b, nc2b, vpb, vlb, vc2b, rfl⟩ := hm4.seven; have HM4 := hid hm4; have HB3 := hid ((hg4x.block w3.heap.size (by simp) (ne_some (by omega))).trans (heap_new w3 (.cells #[.string ({ data := #[102, 117, 110] } : ByteArray), .int .i64 0, .slice none 0 0, .string ByteArray.empty, .slice (some ⟨tb2, 0, none⟩) 4 cap2, .slice npc nn3 ncc, .slice (some ⟨gvc, 0, none⟩) nn3 vcc] 34) w3.heap.size rfl)); have hz34 : w3.heap.size < w4.heap.size := (by have := hg4x.size; simp at this; omega); have hy4 : w.heap.size < w4.heap.size := (by omega); obtain ⟨⟨x0, x1, x2, x3, x4, x5, x6⟩, xx⟩ := cells_of_7 ((hg4x.block w3.heap.size (by simp) (ne_some (by omega))).trans (heap_new w3 (.cells #[.string ({ data := #[102, 117, 110] } : ByteArray), .int .i64 0, .slice none 0 0, .string ByteArray.empty, .slice (some ⟨tb2, 0, none⟩) 4 cap2, .slice npc nn3 ncc, .slice (some ⟨gvc, 0, none⟩) nn3 vcc] 34) w3.heap.size rfl)); clear xx; have HG4X := hid hg4x; have hg4 := grown_trans2 (grown_below HG3.out ((Below.refl _ _).alloc (Nat.le_refl _) _) HG3.out.size) hg4x; clear hg4x hp hm4; obtain ⟨hrs4, jh, jc1, jd1, jc2, jd2, hz4, htb4, hgw4⟩ := HK3.out _ hg4; obtain ⟨⟨v0, v1, v2, v3, v4, v5, v6⟩, o0, o1, o2, o3, o4, o5, o6⟩ := cells_of_7 hrs4; obtain ⟨j0, j1, j2, jf0, jf1, jf2⟩ := mrun_cells hr4; have HR4 := hid hr4; have HG4 := hid hg4; have hrl4 := lt_of_block hr4; clear hrs4 hr4 hg4)
    | (go_at_call 7; refine HCL.out.mono ?_; rintro e w3 ⟨cs, rfl, hg3, hr3, hm3⟩; obtain ⟨tb2, cap2, hbd, npc, nn3, ncc, gvc, vcc, C, rfl, hx0, hb0, hb0s, htb2, hwf, hat, hv3⟩ := mv_clo hm3; have HV3 := hid hv3; have HAT := hid hat; have HCB := hid (And.intro hx0 (And.intro hb0 (And.intro hb0s (And.intro htb2 hwf)))); clear hm3 hx0 hb0 hb0s htb2 hwf hat hv3; obtain ⟨hrs3, gh, gc1, gd1, gc2, gd2, hz3, htb3, hgw3⟩ := HK3.out _ hg3; obtain ⟨⟨t0, t1, t2, t3, t4, t5, t6⟩, s0, s1, s2, s3, s4, s5, s6⟩ := cells_of_7 hrs3; obtain ⟨g0, g1, g2, gf0, gf1, gf2⟩ := mrun_cells hr3; have HR3 := hid hr3; have HG3 := hid hg3; have hrl3 := lt_of_block hr3; clear hrs3 hr3 hg3))
  have hgw5 : w.grownBy (w4.alloc (.cells #[.string kkb, .int .i64 nnb, .slice ppb plb pcb, .string fab, .slice fpb fl2b fcb, .slice np2b nl2b nc2b, .slice vpb vlb vc2b] 34)) (some rb) := grown_below hgw4.out ((Below.refl _ _).alloc (Nat.le_refl _) _) hgw4.out.size
  have HKA := hid (fun (W : World) (h : (w4.alloc (.cells #[.string kkb, .int .i64 nnb, .slice ppb plb pcb, .string fab, .slice fpb fl2b fcb, .slice np2b nl2b nc2b, .slice vpb vlb vc2b] 34)).grownBy W (some rb)) => (show SKept (fun k => S k ∨ w.heap.size + 2 ≤ k) (fun k => S k ∨ w.heap.size + 2 ≤ k) w3 W from
    ⟨fun k hk hl => (h.block k (by simp; omega) (ne_some (by rcases hk with hk | hk; exact (hS k hk).1; omega))).trans ((heap_alloc_old _ _ (by omega)).trans ((HG4X.out.block k (by simp; omega) (ne_some (by rcases hk with hk | hk; exact (hS k hk).1; omega))).trans (heap_alloc_old _ _ hl))), fun _ h _ => h, by have := h.size; simp at this; omega⟩))
  have HSG := hid (fun (W : World) (h : (w4.alloc (.cells #[.string kkb, .int .i64 nnb, .slice ppb plb pcb, .string fab, .slice fpb fl2b fcb, .slice np2b nl2b nc2b, .slice vpb vlb vc2b] 34)).grownBy W (some rb)) => (show W.cell? ⟨tb2, 2, none⟩ = some (.string x) ∧ W.cell? ⟨tb2, 6, none⟩ = some (.string hbd.a) ∧ W.cell? ⟨tb2, 7, none⟩ = some (.slice hbd.p hbd.l hbd.c) ∧ W.cell? ⟨w3.heap.size, 5, none⟩ = some (.slice npc nn3 ncc) ∧ W.cell? ⟨w3.heap.size, 6, none⟩ = some (.slice (some ⟨gvc, 0, none⟩) nn3 vcc) ∧ W.cell? ⟨w4.heap.size, 0, none⟩ = some (.string kkb) ∧ W.cell? ⟨w4.heap.size, 1, none⟩ = some (.int .i64 nnb) ∧ W.cell? ⟨w4.heap.size, 2, none⟩ = some (.slice ppb plb pcb) ∧ W.cell? ⟨w4.heap.size, 3, none⟩ = some (.string fab) ∧ W.cell? ⟨w4.heap.size, 4, none⟩ = some (.slice fpb fl2b fcb) ∧ W.cell? ⟨w4.heap.size, 5, none⟩ = some (.slice np2b nl2b nc2b) ∧ W.cell? ⟨w4.heap.size, 6, none⟩ = some (.slice vpb vlb vc2b) from by
    have hk := kept_grown2 HKK.out hzz hrr (grown_trans2 hgw5 h)
    have c3 := (cells_of_7 ((h.block w3.heap.size (by simp; omega) (ne_some (by omega))).trans ((heap_alloc_old _ _ hz34).trans HB3.out))).1
    have c4 := (cells_of_7 ((h.block w4.heap.size (by simp) (ne_some (by omega))).trans (heap_new w4 (.cells #[.string kkb, .int .i64 nnb, .slice ppb plb pcb, .string fab, .slice fpb fl2b fcb, .slice np2b nl2b nc2b, .slice vpb vlb vc2b] 34) w4.heap.size rfl))).1
    exact ⟨hk.cell HCB.out.1, hk.cell HCB.out.2.1, hk.cell HCB.out.2.2.1, c3.2.2.2.2.2.1, c3.2.2.2.2.2.2, c4⟩))
  have HG45 := hid (below_grown (rb := rb) ((Below.refl w4.heap.size w4).alloc (Nat.le_refl _) (.cells #[.string kkb, .int .i64 nnb, .slice ppb plb pcb, .string fab, .slice fpb fl2b fcb, .slice np2b nl2b nc2b, .slice vpb vlb vc2b] 34)))
  have hn5 : nn3 ≤ 100000 := by have := HAT.out.len; omega
  have hS5 := hid hgw5
  have HMORE := hid (fun (w5 : World) (q5 : Option Addr) (c5 gq5 : Nat) hb5 hsv5 hq5 hgl5 hgu5 => app_more kkb nnb ppb plb pcb fab fpb fl2b fcb np2b nl2b nc2b vpb vlb vc2b hS hrl hz3 hz34 HKA.out HAT.out HV3.out HM4.out HCB.out.2.2.2.2.1 hn5 (w5 := w5) (q5 := q5) (c5 := c5) (gq5 := gq5) hb5 hsv5 hq5 hgl5 hgu5)
  have htb0 : tb2 < w0.heap.size := World.block_lt_of_cell? w0 _ HCB.out.1
  have HSC := hid (fun (W : World) (h : W.cell? ⟨tb2, 2, none⟩ = some (.string x) ∧ W.cell? ⟨tb2, 6, none⟩ = some (.string hbd.a) ∧ W.cell? ⟨tb2, 7, none⟩ = some (.slice hbd.p hbd.l hbd.c) ∧ W.cell? ⟨w3.heap.size, 5, none⟩ = some (.slice npc nn3 ncc) ∧ W.cell? ⟨w3.heap.size, 6, none⟩ = some (.slice (some ⟨gvc, 0, none⟩) nn3 vcc) ∧ W.cell? ⟨w4.heap.size, 0, none⟩ = some (.string kkb) ∧ W.cell? ⟨w4.heap.size, 1, none⟩ = some (.int .i64 nnb) ∧ W.cell? ⟨w4.heap.size, 2, none⟩ = some (.slice ppb plb pcb) ∧ W.cell? ⟨w4.heap.size, 3, none⟩ = some (.string fab) ∧ W.cell? ⟨w4.heap.size, 4, none⟩ = some (.slice fpb fl2b fcb) ∧ W.cell? ⟨w4.heap.size, 5, none⟩ = some (.slice np2b nl2b nc2b) ∧ W.cell? ⟨w4.heap.size, 6, none⟩ = some (.slice vpb vlb vc2b)) (y0 y1 y2 y3 y4 y5 y6 : Value) => (show (((((((W.setCell ⟨w.heap.size + 1, 0, none⟩ y0).setCell ⟨w.heap.size + 1, 1, none⟩ y1).setCell ⟨w.heap.size + 1, 2, none⟩ y2).setCell ⟨w.heap.size + 1, 3, none⟩ y3).setCell ⟨w.heap.size + 1, 4, none⟩ y4).setCell ⟨w.heap.size + 1, 5, none⟩ y5).setCell ⟨w.heap.size + 1, 6, none⟩ y6).cell? ⟨tb2, 2, none⟩ = some (.string x) ∧ (((((((W.setCell ⟨w.heap.size + 1, 0, none⟩ y0).setCell ⟨w.heap.size + 1, 1, none⟩ y1).setCell ⟨w.heap.size + 1, 2, none⟩ y2).setCell ⟨w.heap.size + 1, 3, none⟩ y3).setCell ⟨w.heap.size + 1, 4, none⟩ y4).setCell ⟨w.heap.size + 1, 5, none⟩ y5).setCell ⟨w.heap.size + 1, 6, none⟩ y6).cell? ⟨tb2, 6, none⟩ = some (.string hbd.a) ∧ (((((((W.setCell ⟨w.heap.size + 1, 0, none⟩ y0).setCell ⟨w.heap.size + 1, 1, none⟩ y1).setCell ⟨w.heap.size + 1, 2, none⟩ y2).setCell ⟨w.heap.size + 1, 3, none⟩ y3).setCell ⟨w.heap.size + 1, 4, none⟩ y4).setCell ⟨w.heap.size + 1, 5, none⟩ y5).setCell ⟨w.heap.size + 1, 6, none⟩ y6).cell? ⟨tb2, 7, none⟩ = some (.slice hbd.p hbd.l hbd.c) ∧ (((((((W.setCell ⟨w.heap.size + 1, 0, none⟩ y0).setCell ⟨w.heap.size + 1, 1, none⟩ y1).setCell ⟨w.heap.size + 1, 2, none⟩ y2).setCell ⟨w.heap.size + 1, 3, none⟩ y3).setCell ⟨w.heap.size + 1, 4, none⟩ y4).setCell ⟨w.heap.size + 1, 5, none⟩ y5).setCell ⟨w.heap.size + 1, 6, none⟩ y6).cell? ⟨w3.heap.size, 5, none⟩ = some (.slice npc nn3 ncc) ∧ (((((((W.setCell ⟨w.heap.size + 1, 0, none⟩ y0).setCell ⟨w.heap.size + 1, 1, none⟩ y1).setCell ⟨w.heap.size + 1, 2, none⟩ y2).setCell ⟨w.heap.size + 1, 3, none⟩ y3).setCell ⟨w.heap.size + 1, 4, none⟩ y4).setCell ⟨w.heap.size + 1, 5, none⟩ y5).setCell ⟨w.heap.size + 1, 6, none⟩ y6).cell? ⟨w3.heap.size, 6, none⟩ = some (.slice (some ⟨gvc, 0, none⟩) nn3 vcc) ∧ (((((((W.setCell ⟨w.heap.size + 1, 0, none⟩ y0).setCell ⟨w.heap.size + 1, 1, none⟩ y1).setCell ⟨w.heap.size + 1, 2, none⟩ y2).setCell ⟨w.heap.size + 1, 3, none⟩ y3).setCell ⟨w.heap.size + 1, 4, none⟩ y4).setCell ⟨w.heap.size + 1, 5, none⟩ y5).setCell ⟨w.heap.size + 1, 6, none⟩ y6).cell? ⟨w4.heap.size, 0, none⟩ = some (.string kkb) ∧ (((((((W.setCell ⟨w.heap.size + 1, 0, none⟩ y0).setCell ⟨w.heap.size + 1, 1, none⟩ y1).setCell ⟨w.heap.size + 1, 2, none⟩ y2).setCell ⟨w.heap.size + 1, 3, none⟩ y3).setCell ⟨w.heap.size + 1, 4, none⟩ y4).setCell ⟨w.heap.size + 1, 5, none⟩ y5).setCell ⟨w.heap.size + 1, 6, none⟩ y6).cell? ⟨w4.heap.size, 1, none⟩ = some (.int .i64 nnb) ∧ (((((((W.setCell ⟨w.heap.size + 1, 0, none⟩ y0).setCell ⟨w.heap.size + 1, 1, none⟩ y1).setCell ⟨w.heap.size + 1, 2, none⟩ y2).setCell ⟨w.heap.size + 1, 3, none⟩ y3).setCell ⟨w.heap.size + 1, 4, none⟩ y4).setCell ⟨w.heap.size + 1, 5, none⟩ y5).setCell ⟨w.heap.size + 1, 6, none⟩ y6).cell? ⟨w4.heap.size, 2, none⟩ = some (.slice ppb plb pcb) ∧ (((((((W.setCell ⟨w.heap.size + 1, 0, none⟩ y0).setCell ⟨w.heap.size + 1, 1, none⟩ y1).setCell ⟨w.heap.size + 1, 2, none⟩ y2).setCell ⟨w.heap.size + 1, 3, none⟩ y3).setCell ⟨w.heap.size + 1, 4, none⟩ y4).setCell ⟨w.heap.size + 1, 5, none⟩ y5).setCell ⟨w.heap.size + 1, 6, none⟩ y6).cell? ⟨w4.heap.size, 3, none⟩ = some (.string fab) ∧ (((((((W.setCell ⟨w.heap.size + 1, 0, none⟩ y0).setCell ⟨w.heap.size + 1, 1, none⟩ y1).setCell ⟨w.heap.size + 1, 2, none⟩ y2).setCell ⟨w.heap.size + 1, 3, none⟩ y3).setCell ⟨w.heap.size + 1, 4, none⟩ y4).setCell ⟨w.heap.size + 1, 5, none⟩ y5).setCell ⟨w.heap.size + 1, 6, none⟩ y6).cell? ⟨w4.heap.size, 4, none⟩ = some (.slice fpb fl2b fcb) ∧ (((((((W.setCell ⟨w.heap.size + 1, 0, none⟩ y0).setCell ⟨w.heap.size + 1, 1, none⟩ y1).setCell ⟨w.heap.size + 1, 2, none⟩ y2).setCell ⟨w.heap.size + 1, 3, none⟩ y3).setCell ⟨w.heap.size + 1, 4, none⟩ y4).setCell ⟨w.heap.size + 1, 5, none⟩ y5).setCell ⟨w.heap.size + 1, 6, none⟩ y6).cell? ⟨w4.heap.size, 5, none⟩ = some (.slice np2b nl2b nc2b) ∧ (((((((W.setCell ⟨w.heap.size + 1, 0, none⟩ y0).setCell ⟨w.heap.size + 1, 1, none⟩ y1).setCell ⟨w.heap.size + 1, 2, none⟩ y2).setCell ⟨w.heap.size + 1, 3, none⟩ y3).setCell ⟨w.heap.size + 1, 4, none⟩ y4).setCell ⟨w.heap.size + 1, 5, none⟩ y5).setCell ⟨w.heap.size + 1, 6, none⟩ y6).cell? ⟨w4.heap.size, 6, none⟩ = some (.slice vpb vlb vc2b) from
    ⟨keep_set7 (by omega) h.1, keep_set7 (by omega) h.2.1, keep_set7 (by omega) h.2.2.1, keep_set7 (by omega) h.2.2.2.1, keep_set7 (by omega) h.2.2.2.2.1, keep_set7 (by omega) h.2.2.2.2.2.1, keep_set7 (by omega) h.2.2.2.2.2.2.1, keep_set7 (by omega) h.2.2.2.2.2.2.2.1, keep_set7 (by omega) h.2.2.2.2.2.2.2.2.1, keep_set7 (by omega) h.2.2.2.2.2.2.2.2.2.1, keep_set7 (by omega) h.2.2.2.2.2.2.2.2.2.2.1, keep_set7 (by omega) h.2.2.2.2.2.2.2.2.2.2.2⟩))
  obtain ⟨d1', d2', d3', d4', d5', d6'⟩ := HSG.out _ (World.grownBy.refl _ _)
  clear hgw5
  go_region_held3 (fun w' => w'.cell? ⟨tb2, 2, none⟩ = some (.string x) ∧ w'.cell? ⟨tb2, 6, none⟩ = some (.string hbd.a) ∧ w'.cell? ⟨tb2, 7, none⟩ = some (.slice hbd.p hbd.l hbd.c) ∧ w'.cell? ⟨w3.heap.size, 5, none⟩ = some (.slice npc nn3 ncc) ∧ w'.cell? ⟨w3.heap.size, 6, none⟩ = some (.slice (some ⟨gvc, 0, none⟩) nn3 vcc) ∧ w'.cell? ⟨w4.heap.size, 0, none⟩ = some (.string kkb) ∧ w'.cell? ⟨w4.heap.size, 1, none⟩ = some (.int .i64 nnb) ∧ w'.cell? ⟨w4.heap.size, 2, none⟩ = some (.slice ppb plb pcb) ∧ w'.cell? ⟨w4.heap.size, 3, none⟩ = some (.string fab) ∧ w'.cell? ⟨w4.heap.size, 4, none⟩ = some (.slice fpb fl2b fcb) ∧ w'.cell? ⟨w4.heap.size, 5, none⟩ = some (.slice np2b nl2b nc2b) ∧ w'.cell? ⟨w4.heap.size, 6, none⟩ = some (.slice vpb vlb vc2b))
    (first | with_reducible exact E8.out | with_reducible exact HSC.out _ E8.out _ _ _ _ _ _ _ | with_reducible exact E6.out | with_reducible exact E5.out | with_reducible exact ⟨d1', d2', d3', d4', d5', d6'⟩ | with_reducible exact HSG.out _ (below_grown ((Below.refl _ _).alloc (Nat.le_refl _) _)) | with_reducible exact HSG.out _ (below_grown ((Below.refl _ _).alloc (Nat.le_refl _) _).drew) | with_reducible exact HSG.out _ (below_grown (Below.refl _ _).drew) )
    (first
      | (have _ := HB6; (go_at_call 7; refine (HC3.out (fun k => (S k ∨ w.heap.size + 2 ≤ k) ∧ k < w6.heap.size) w6 hbd q5 (nn3 + 1) c5 g6 c6 (app_S hS hrl) (grown_trans2 hS5.out (below_grown HB6.out)) (mrun_below (mrun_below HR4.out ((Below.refl _ _).alloc (Nat.le_refl _) _) hrl4) HB6.out (by simp; omega)) HCB.out.2.2.2.1 HCB.out.2.2.2.2 HEM6.out).mono ?_; rintro e w7 hp; obtain ⟨kk, nn, pp, pl, pc, fa, fp, fl2, fc, np2, nl2, nc2, vp, vl, vc2, bb, rfl, hp⟩ := mvPost_shape hp; have HP := hid hp; have hg7x := hp.1; have hr7 := hp.2.1; have E8 := hid (HSG.out w7 (grown_trans2 (below_grown HB6.out) hg7x)); have hg7 := grown_trans2 HG4.out (grown_trans2 (grown_trans2 HG45.out (below_grown HB6.out)) hg7x); clear hp hg7x; obtain ⟨hrs7, ph, pc1, pd1, pc2, pd2, hz7, htb7, hgw7⟩ := HK3.out _ hg7; obtain ⟨⟨t0, t1, t2, t3, t4, t5, t6⟩, s0, s1, s2, s3, s4, s5, s6⟩ := cells_of_7 hrs7; obtain ⟨p0, p1, p2, pf0, pf1, pf2⟩ := mrun_cells hr7; have HR7 := hid hr7; have HG7 := hid hg7; have hrl7 := lt_of_block hr7; clear hrs7 hr7 hg7))
      | (have _ := HB5; go_at_call 19; refine (HMORE.out w5 q5 c5 gq5 HB5.out HSV5.out HQ5.out hgl5' hgu5).mono ?_; rintro e w6 ⟨g6, c6, rfl, hb06, hem⟩; have E6 := hid (HSG.out w6 (below_grown hb06)); have HB6 := hid hb06; have HEM6 := hid hem; clear hb06 hem)
      | ((go_at_call 18; refine (with_name (x := x) (l := nsV cenv) (HAT.out.keep (HKA.out _ (below_grown (by first | exact ((Below.refl _ _).alloc (Nat.le_refl _) _).drew | exact (Below.refl _ _).alloc (Nat.le_refl _) _)))).nms hn5 (by exact heap_new _ _ _ (by simp))).mono ?_; rintro e w5 ⟨q5, c5, gq5, rfl, hsv5, hq5, hgl5, hgu5, hb5⟩; have hb05 : Below (w4.alloc (.cells #[.string kkb, .int .i64 nnb, .slice ppb plb pcb, .string fab, .slice fpb fl2b fcb, .slice np2b nl2b nc2b, .slice vpb vlb vc2b] 34)).heap.size (w4.alloc (.cells #[.string kkb, .int .i64 nnb, .slice ppb plb pcb, .string fab, .slice fpb fl2b fcb, .slice np2b nl2b nc2b, .slice vpb vlb vc2b] 34)) w5 := (below_nx hb5 (by first | exact ((Below.refl _ _).alloc (Nat.le_refl _) _).drew | exact (Below.refl _ _).alloc (Nat.le_refl _) _)); have hgl5' : w4.heap.size ≤ gq5 := (by have h : ((w4.alloc (.cells #[.string kkb, .int .i64 nnb, .slice ppb plb pcb, .string fab, .slice fpb fl2b fcb, .slice np2b nl2b nc2b, .slice vpb vlb vc2b] 34)).alloc (.cells #[.string x] 9)).heap.size ≤ gq5 := hgl5; simp at h; omega); have HB5 := hid hb05; have E5 := hid (HSG.out w5 (below_grown hb05)); have HSV5 := hid hsv5; have HQ5 := hid hq5; clear hb5 hb05 hsv5 hq5)))
  go_wp2_with fail
  refine bodyPost_ret (v := .tuple #[.agg #[.string kk, .int .i64 nn, .slice pp pl pc, .string fa, .slice fp fl2 fc, .slice np2 nl2 nc2, .slice vp vl vc2], .bool bb]) (by simp [results, Tryz.results7, go_sem, t0, t1, t2, t3, t4, t5, t6]) rfl ?_
  have h6 := HB6.out.size
  simp at h6
  refine mv_close_any2 (grown_trans2 hS5.out (below_grown HB6.out)) HP.out (fun k hk => ?_) (by omega) (by omega)
  rcases hk with ⟨hk | hk, _⟩ | hk
  · exact ⟨by have := (hS k hk).2; omega, .inl hk⟩
  · exact ⟨by omega, .inr (by omega)⟩
  · exact ⟨by omega, .inr (by omega)⟩


end Go.Proofs.YtmjhfekcbagibaaGreatDoor
