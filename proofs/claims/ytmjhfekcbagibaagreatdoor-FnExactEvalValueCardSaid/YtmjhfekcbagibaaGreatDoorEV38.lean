/- Merged: MvH, MvJ. -/
import Derived.Deep.RegionHeld3
import Derived.Test.YtmjhfekcbagibaaGreatDoorEVSMvF
import Derived.Test.YtmjhfekcbagibaaGreatDoorEVSInS
import Derived.Test.YtmjhfekcbagibaaGreatDoorEV36
import Derived.Test.YtmjhfekcbagibaaGreatDoorEVSMvG
import Derived.Test.YtmjhfekcbagibaaGreatDoorEV29
namespace Go.Proofs.YtmjhfekcbagibaaGreatDoor
open Go.RowKit

/-- A number in a range. -/
def inB (n lo hi : Int) : Bool := decide (lo ≤ n ∧ n ≤ hi)
theorem l6InB_any (n lo hi : Int) (w : World) : Calls Tryz.prog 15 #[.int .i64 n, .int .i64 lo, .int .i64 hi] w fun e w' => e = .returned (.bool (inB n lo hi)) ∧ w = w' := l6In_any n lo hi w
/-- What a start leaves. -/
def StartPost (o : Option Sx) (n f : Nat) (w : World) (e : Ending) (w' : World) : Prop :=
  Below w.heap.size w w' ∧ match o with
    | none => ∃ (pa : ByteArray) (pp : Option Addr) (pl pc : Nat) (p : Option Addr), e = .returned (.tuple #[.agg #[.string pa, .slice pp pl pc], .pointer p, .bool false])
    | some m => ∃ (w1 : World) (h : Hd) (rb : Nat), e = .returned (.tuple #[.agg #[.string h.a, .slice h.p h.l h.c], .pointer (some ⟨rb, 0, none⟩), .bool true]) ∧ TIn w1 (fun _ => True) m.tree h ∧ Kept w1 w' ∧ w1.heap.size ≤ rb ∧ w.heap.size ≤ rb ∧ w1.heap.size ≤ w'.heap.size ∧ MRun w' rb ⟨f, n, false⟩
theorem start_t9 {w w1 w3 : World} {pa : ByteArray} {pp : Option Addr} {pl pc : Nat} (hb1 : Below (w.alloc (.cells #[.string ({ data := #[] } : ByteArray), .slice none 0 0] 27)).heap.size (w.alloc (.cells #[.string ({ data := #[] } : ByteArray), .slice none 0 0] 27)) w1)
    (h : Below (w1.alloc (.cells #[.string pa, .slice pp pl pc] 27)).heap.size (w1.alloc (.cells #[.string pa, .slice pp pl pc] 27)) w3) :
    (w3.cell? ⟨w1.heap.size, 0, none⟩ = some (.string pa) ∧ w3.cell? ⟨w1.heap.size, 1, none⟩ = some (.slice pp pl pc)) ∧ w3.cell? ⟨w.heap.size, 0, none⟩ = some (.string ({ data := #[] } : ByteArray)) ∧ w3.cell? ⟨w.heap.size, 1, none⟩ = some (.slice none 0 0) ∧ w3.frozen? ⟨w.heap.size, 0, none⟩ = false ∧ w3.frozen? ⟨w.heap.size, 1, none⟩ = false ∧ w.heap.size < w3.heap.size ∧ w1.heap.size < w3.heap.size := by
  have s1 := hb1.size
  have s3 := h.size
  simp at s1 s3
  have c := cells_of_pair (block_below (heap_new w1 (.cells #[.string pa, .slice pp pl pc] 27) w1.heap.size rfl) h (by simp))
  have b6 : w3.heap[w.heap.size]? = some (.cells #[.string ({ data := #[] } : ByteArray), .slice none 0 0] 27 (0, 0)) :=
    block_below ((heap_alloc_old w1 _ (by omega)).trans (block_below (heap_new w _ w.heap.size rfl) hb1 (by simp))) h (by simp; omega)
  have d := cells_of_pair b6
  exact ⟨⟨c.1, c.2.1⟩, d.1, d.2.1, d.2.2.1, d.2.2.2, by omega, by omega⟩
theorem start_b6 {w w1 w3 : World} {o : Obj} (hb1 : Below (w.alloc (.cells #[.string ({ data := #[] } : ByteArray), .slice none 0 0] 27)).heap.size (w.alloc (.cells #[.string ({ data := #[] } : ByteArray), .slice none 0 0] 27)) w1) (h : Below (w1.alloc o).heap.size (w1.alloc o) w3) : w3.heap[w.heap.size]? = some (.cells #[.string ({ data := #[] } : ByteArray), .slice none 0 0] 27 (0, 0)) := by
  have s1 := hb1.size
  simp at s1
  exact block_below ((heap_alloc_old w1 _ (by omega)).trans (block_below (heap_new w _ w.heap.size rfl) hb1 (by simp))) h (by simp; omega)
theorem set_pair2 {w : World} {b : Nat} {x0 x1 y0 y1 : Value} {t : TypeId} (h : w.heap[b]? = some (.cells #[x0, x1] t (0, 0))) : ((w.setCell ⟨b, 0, none⟩ y0).setCell ⟨b, 1, none⟩ y1).heap[b]? = some (.cells #[y0, y1] t (0, 0)) := by
  have hlt := lt_of_block h
  have h' : w.heap[b] = .cells #[x0, x1] t (0, 0) := by simpa [Array.getElem?_eq_getElem hlt] using h
  have h1 : (w.setCell ⟨b, 0, none⟩ y0).heap[b]? = some (.cells #[y0, x1] t (0, 0)) := by
    show (w.heap.modify b _)[b]? = _
    rw [Array.getElem?_eq_getElem (by simpa using hlt), Array.getElem_modify_self, h']; rfl
  have hlt1 := lt_of_block h1
  have h1' : (w.setCell ⟨b, 0, none⟩ y0).heap[b] = .cells #[y0, x1] t (0, 0) := by simpa [Array.getElem?_eq_getElem hlt1] using h1
  show ((w.setCell ⟨b, 0, none⟩ y0).heap.modify b _)[b]? = _
  rw [Array.getElem?_eq_getElem (by simpa using hlt1), Array.getElem_modify_self, h1']; rfl
theorem set2_ne {w : World} {b k : Nat} {y0 y1 : Value} (hne : k ≠ b) : ((w.setCell ⟨b, 0, none⟩ y0).setCell ⟨b, 1, none⟩ y1).heap[k]? = w.heap[k]? := (heap_set_ne hne).trans (heap_set_ne hne)
theorem start_below {w w1 w3 : World} {o : Obj} {y0 y1 : Value} (hb1 : Below (w.alloc (.cells #[.string ({ data := #[] } : ByteArray), .slice none 0 0] 27)).heap.size (w.alloc (.cells #[.string ({ data := #[] } : ByteArray), .slice none 0 0] 27)) w1) (h : Below (w1.alloc o).heap.size (w1.alloc o) w3) : Below w.heap.size w ((w3.setCell ⟨w.heap.size, 0, none⟩ y0).setCell ⟨w.heap.size, 1, none⟩ y1) := by
  have s1 := hb1.size
  simp at s1
  have h1 : Below w.heap.size w w1 := ((Below.refl _ _).alloc (Nat.le_refl _) _).trans (hb1.mono (by simp))
  have h3 : Below w.heap.size w w3 := (h1.alloc h1.size o).trans (h.mono (by simp; omega))
  exact (h3.setCell (Nat.le_refl _) _).setCell (Nat.le_refl _) _
/-- The run's block behind the call. -/
theorem start_A {w w1 w3 : World} {pa : ByteArray} {pp : Option Addr} {pl pc n f : Nat} {m : Sx} (hb1 : Below (w.alloc (.cells #[.string ({ data := #[] } : ByteArray), .slice none 0 0] 27)).heap.size (w.alloc (.cells #[.string ({ data := #[] } : ByteArray), .slice none 0 0] 27)) w1) (h3 : Below (w1.alloc (.cells #[.string pa, .slice pp pl pc] 27)).heap.size (w1.alloc (.cells #[.string pa, .slice pp pl pc] 27)) w3) (htr : TIn w1 (fun b => (w.alloc (.cells #[.string ({ data := #[] } : ByteArray), .slice none 0 0] 27)).heap.size ≤ b) m.tree ⟨pa, pp, pl, pc⟩) :
    StartPost (some m) n f w (.returned (.tuple #[.agg #[.string pa, .slice pp pl pc], .pointer (some ⟨w3.heap.size, 0, none⟩), .bool true])) (((w3.setCell ⟨w.heap.size, 0, none⟩ (.string pa)).setCell ⟨w.heap.size, 1, none⟩ (.slice pp pl pc)).alloc (.cells #[.int .i64 (f : Int), .int .i64 (n : Int), .bool false] 38)) := by
  have hb := start_below (y0 := .string pa) (y1 := .slice pp pl pc) hb1 h3
  have s1 := hb1.size
  have s3 := h3.size
  simp at s1 s3
  obtain ⟨wT, hT⟩ : ∃ wT, wT = ((w3.setCell ⟨w.heap.size, 0, none⟩ (.string pa)).setCell ⟨w.heap.size, 1, none⟩ (.slice pp pl pc)) := ⟨_, rfl⟩
  have hz : wT.heap.size = w3.heap.size := by rw [hT]; simp
  have hk : ∀ k, k ≠ w.heap.size → wT.heap[k]? = w3.heap[k]? := fun k hk => by rw [hT]; exact set2_ne hk
  rw [← hT] at hb ⊢
  refine ⟨hb.alloc hb.size _, wT, ⟨pa, pp, pl, pc⟩, w3.heap.size, rfl, htr.keep (fun k hk2 hl => ?_) (fun _ _ _ => trivial), (Kept.refl wT).alloc (Nat.le_refl _) _, by omega, by omega, by simp, heap_new wT _ _ hz.symm⟩
  simp at hk2
  exact (hk k (by omega)).trans ((h3.block k (by simp; omega)).trans (heap_alloc_old _ _ hl))
/-- The run's block ahead of the call. -/
theorem start_B {w w1 w3 : World} {pa : ByteArray} {pp : Option Addr} {pl pc n f : Nat} {m : Sx} (hb1 : Below (w.alloc (.cells #[.string ({ data := #[] } : ByteArray), .slice none 0 0] 27)).heap.size (w.alloc (.cells #[.string ({ data := #[] } : ByteArray), .slice none 0 0] 27)) w1) (h3 : Below ((w1.alloc (.cells #[.string pa, .slice pp pl pc] 27)).alloc (.cells #[.int .i64 (f : Int), .int .i64 (n : Int), .bool false] 38)).heap.size ((w1.alloc (.cells #[.string pa, .slice pp pl pc] 27)).alloc (.cells #[.int .i64 (f : Int), .int .i64 (n : Int), .bool false] 38)) w3) (htr : TIn w1 (fun b => (w.alloc (.cells #[.string ({ data := #[] } : ByteArray), .slice none 0 0] 27)).heap.size ≤ b) m.tree ⟨pa, pp, pl, pc⟩) :
    StartPost (some m) n f w (.returned (.tuple #[.agg #[.string pa, .slice pp pl pc], .pointer (some ⟨w1.heap.size + 1, 0, none⟩), .bool true])) ((w3.setCell ⟨w.heap.size, 0, none⟩ (.string pa)).setCell ⟨w.heap.size, 1, none⟩ (.slice pp pl pc)) := by
  have h3' : Below (w1.alloc (.cells #[.string pa, .slice pp pl pc] 27)).heap.size (w1.alloc (.cells #[.string pa, .slice pp pl pc] 27)) w3 := ((Below.refl _ _).alloc (Nat.le_refl _) _).trans (h3.mono (by simp))
  have hb := start_below (y0 := .string pa) (y1 := .slice pp pl pc) hb1 h3'
  have s1 := hb1.size
  have s3 := h3.size
  simp at s1 s3
  have b6 := start_b6 hb1 h3'
  have b6' := start_b6 hb1 (Below.refl (w1.alloc (.cells #[.string pa, .slice pp pl pc] 27)).heap.size (w1.alloc (.cells #[.string pa, .slice pp pl pc] 27)))
  have hrn := block_below (heap_new (w1.alloc (.cells #[.string pa, .slice pp pl pc] 27)) (.cells #[.int .i64 (f : Int), .int .i64 (n : Int), .bool false] 38) (w1.heap.size + 1) (by simp)) h3 (by simp)
  refine ⟨hb, (((w1.alloc (.cells #[.string pa, .slice pp pl pc] 27)).setCell ⟨w.heap.size, 0, none⟩ (.string pa)).setCell ⟨w.heap.size, 1, none⟩ (.slice pp pl pc)), ⟨pa, pp, pl, pc⟩, w1.heap.size + 1, rfl, htr.keep (fun k hk2 hl => ?_) (fun _ _ _ => trivial), fun k hk2 => ?_, by simp, by omega, by simp; omega, (set2_ne (by omega)).trans hrn⟩
  · simp at hk2
    exact (set2_ne (by omega)).trans (heap_alloc_old _ _ hl)
  · simp at hk2
    by_cases e : k = w.heap.size
    · subst e
      rw [set_pair2 b6, set_pair2 b6']
    · rw [set2_ne e, set2_ne e]
      exact h3'.block k (by simp; omega)
theorem undrewB {W w3 : World} (h : Below W.drew.heap.size W.drew w3) : Below W.heap.size W w3 := ⟨h.os, h.tape, h.output, h.size, h.block⟩
theorem keep_two {W : World} {b g i : Nat} {u y0 y1 : Value} (hne : g ≠ b) (h : W.cell? ⟨g, i, none⟩ = some u) : ((W.setCell ⟨b, 0, none⟩ y0).setCell ⟨b, 1, none⟩ y1).cell? ⟨g, i, none⟩ = some u :=
  (World.cell?_of_block (w := W) (a := ⟨g, i, none⟩) ((heap_set_ne hne).trans (heap_set_ne hne))).trans h

set_option maxRecDepth 100000 in
set_option maxHeartbeats 4000000 in
theorem l7Start_ok (s : ByteArray) (hs : s.size ≤ 400000000) (w : World) {x : Sx × STy} (hx : stE s = some x) {n f : Nat} (hn : n ≤ 1) (hf : f ≤ 5000) : Calls Tryz.prog 6 #[.string s, .int .i64 (n : Int), .int .i64 (f : Int)] w (StartPost (some x.1) n f w) := by
  have HC := hid (fun W => l7Read_any s hs W)
  have HE := hid (sxTree_eq s)
  have HCL := hid (fun W => l7Closed_any s hs W)
  obtain ⟨hre, hty, htn⟩ := stE_n hx
  have HT := hid (show sxTree s = some x.1.tree by rw [HE.out, hre]; rfl)
  have hcl : clT s = x.2.tree.txt := by rw [stE_some hre, hty]; rfl
  have hxe : (x.2.tree.txt.toList == []) = false := txt7_none (some x.2)
  rw [hcl] at HCL
  obtain ⟨X, hX⟩ : ∃ X, x.2.tree.txt = X := ⟨_, rfl⟩
  rw [hX] at HCL hxe
  have hxe2 : (!X.toList == []) = true := by rw [hxe]; rfl
  have i0 : inB (n : Int) 0 1 = true := decide_eq_true ⟨by omega, by omega⟩
  have i1 : inB (f : Int) 0 5000 = true := decide_eq_true ⟨by omega, by omega⟩
  clear hx hre hty htn hcl hX
  go_enter Tryz.func6, Tryz.ntmps6
  go_wp2_with (go_at_call 13; refine (HC.out _).mono ?_; rintro e w1 hp; rw [HT.out] at hp; obtain ⟨pa, pp, pl, pc, rfl, hb1, htr⟩ := hp.some; clear hp; have HTR := hid htr; clear htr; have HB1 := hid hb1; obtain ⟨⟨d0, d1⟩, u0, u1, z0, z1, z2, z3⟩ := start_t9 (pa := pa) (pp := pp) (pl := pl) (pc := pc) hb1 (Below.refl _ _); have HNE := hid (show w1.heap.size ≠ w.heap.size from by have := hb1.size; simp at this; omega); clear hb1)
  have KW := hid (fun (W : World) (h : Below (w1.alloc (.cells #[.string pa, .slice pp pl pc] 27)).heap.size (w1.alloc (.cells #[.string pa, .slice pp pl pc] 27)) W) => start_t9 HB1.out h)
  go_region_held3 (fun w' => w'.cell? ⟨w1.heap.size, 0, none⟩ = some (.string pa) ∧ w'.cell? ⟨w1.heap.size, 1, none⟩ = some (.slice pp pl pc))
    (first | with_reducible exact E3.out | with_reducible exact ⟨d0, d1⟩ | with_reducible exact (KW.out _ (Below.refl _ _).drew).1 | with_reducible exact (KW.out _ ((Below.refl _ _).alloc (Nat.le_refl _) _)).1 | with_reducible exact (KW.out _ ((Below.refl _ _).alloc (Nat.le_refl _) _).drew).1 | with_reducible exact ⟨alloc_cell E3.out.1 _, alloc_cell E3.out.2 _⟩ | with_reducible exact ⟨keep_two HNE.out E3.out.1, keep_two HNE.out E3.out.2⟩ | with_reducible exact ⟨alloc_cell (keep_two HNE.out E3.out.1) _, alloc_cell (keep_two HNE.out E3.out.2) _⟩)
    (first
      | (go_at_call 15; refine (l6InB_any _ _ _ _).mono ?_; rintro e w9 ⟨rfl, rfl⟩)
      | ((go_at_call 14; refine (HCL.out _).mono ?_; rintro e w3 ⟨rfl, hb3⟩; have hb03 : Below (w1.alloc (.cells #[.string pa, .slice pp pl pc] 27)).heap.size (w1.alloc (.cells #[.string pa, .slice pp pl pc] 27)) w3 := (by first | exact below_nx hb3 (Below.refl _ _).drew | exact below_nx hb3 ((Below.refl _ _).alloc (Nat.le_refl _) _).drew | exact below_nx hb3 ((Below.refl _ _).alloc (Nat.le_refl _) _) | exact hb3); (first | have HBR := hid (undrewB hb3) | have HBR := hid hb3); obtain ⟨e3, v0, v1, y0, y1, x2, x3⟩ := KW.out w3 hb03; have E3 := hid e3; have HB3 := hid hb03;  obtain ⟨m0, m1⟩ := e3; clear hb3 hb03)))
  all_goals
    go_wp2_with fail
    first
      | (refine bodyPost_ret (v := .tuple #[.agg #[.string pa, .slice pp pl pc], .pointer (some ⟨w3.heap.size, 0, none⟩), .bool true]) (by simp [results, Tryz.results6, go_sem, x2, v0, v1]) rfl ?_; exact start_A HB1.out HB3.out HTR.out)
      | (refine bodyPost_ret (v := .tuple #[.agg #[.string pa, .slice pp pl pc], .pointer (some ⟨w1.heap.size + 1, 0, none⟩), .bool true]) (by simp [results, Tryz.results6, go_sem, v0, v1]) rfl ?_; exact start_B HB1.out HBR.out HTR.out)
end Go.Proofs.YtmjhfekcbagibaaGreatDoor

namespace Go.Proofs.YtmjhfekcbagibaaGreatDoor
open Go.RowKit

theorem below_rb {B rb : Nat} {a w w3 : World} (hb : Below B a w) (hg : w.grownBy w3 (some rb)) (hB : B ≤ w.heap.size) (hr : B ≤ rb) : Below B a w3 :=
  hb.grown hg hB (fun j e => by have : rb = j := Option.some.inj e
                                omega)
theorem skept_alloc {S : Nat → Prop} (w : World) (o : Obj) : SKept S (fun _ => True) w (w.alloc o) := ⟨fun _ _ hl => heap_alloc_old _ _ hl, fun _ _ _ => trivial, by simp⟩
theorem eval_ready {w1 w2 : World} {rb n f : Nat} {h : Hd} {x : Sx × STy} (ht : TIn w1 (fun _ => True) x.1.tree h) (hk : Kept w1 w2) (hrb : w1.heap.size ≤ rb) (hz : w1.heap.size ≤ w2.heap.size) (hr : MRun w2 rb ⟨f, n, false⟩) (hn : n ≤ 1) (hf : f ≤ 5000) (ha : x.1.an) (hw : x.1.bw) (hwf : x.1.wf) (hty : x.1.typ [] = some x.2) :
    Calls Tryz.prog 7 #[.pointer (some ⟨rb, 0, none⟩), .agg #[.string h.a, .slice h.p h.l h.c], .slice (some ⟨w2.heap.size + 1, 0, none⟩) 0 0, .slice (some ⟨w2.heap.size + 2, 0, none⟩) 0 0] (((w2.alloc (.cells #[.string h.a, .slice h.p h.l h.c] 27)).alloc (.cells #[] 9)).alloc (.cells #[] 34)) (MvPost (fun k => k = w2.heap.size + 1 ∨ k = w2.heap.size + 2) w1 rb (x.1.ev (f + 1) [] ⟨f, n, false⟩) (((w2.alloc (.cells #[.string h.a, .slice h.p h.l h.c] 27)).alloc (.cells #[] 9)).alloc (.cells #[] 34))) := by
  have hrl := lt_of_block hr
  have hb1 : Below w2.heap.size w2 (((w2.alloc (.cells #[.string h.a, .slice h.p h.l h.c] 27)).alloc (.cells #[] 9)).alloc (.cells #[] 34)) := (((Below.refl _ _).alloc (Nat.le_refl _) _).alloc (by simp) _).alloc (by simp; omega) _
  have hzW : (((w2.alloc (.cells #[.string h.a, .slice h.p h.l h.c] 27)).alloc (.cells #[] 9)).alloc (.cells #[] 34)).heap.size = w2.heap.size + 3 := by simp
  refine l7Eval_any hrb (f + 1) x.1 h [] [] x.2 (fun k => k = w2.heap.size + 1 ∨ k = w2.heap.size + 2) _ 0 0 _ 0 ⟨f, n, false⟩ _ ht (fun k hk2 => (hb1.block k (by omega)).trans (hk k hk2)) (by omega) (mrun_below hr hb1 hrl) (by simp) (by simp; omega) (by simp) hn (fun k hk2 => ?_) ⟨fun _ => [], ⟨rfl, ⟨rfl, by simp, by simp [nsV]⟩, ?_, ?_, .inr rfl, ?_, by simp, by simp⟩, by simp⟩ .nil ha hw hwf hty
  · rcases hk2 with rfl | rfl
    · exact ⟨by omega, by rw [hzW]; omega⟩
    · exact ⟨by omega, by rw [hzW]; omega⟩
  · intro g o e; simp at e; exact .inl e.1.symm
  · intro g o e; simp at e; rw [hzW]; omega
  · rw [hzW]; omega

set_option maxRecDepth 100000 in
set_option maxHeartbeats 2000000 in
theorem specEval_none (s : ByteArray) (b f : Int) (w : World) (h : Calls Tryz.prog 6 #[.string s, .int .i64 b, .int .i64 f] w (StartPost none 0 0 w)) : Calls Tryz.prog 4 #[.string s, .int .i64 b, .int .i64 f] w (VqPost none w) := by
  have HC := hid h
  clear h
  go_enter Tryz.func4, Tryz.ntmps4
  go_wp2_with (go_at_call 6; refine HC.out.mono ?_; rintro e w1 ⟨hb1, pa, pp, pl, pc, p, rfl⟩)
  ((try simp only [Exit.inBlock, Exit.then]); refine bodyPost_ret (results_tmp3 rfl _ _ _) rfl ?_)
  exact ⟨rfl, hb1.alloc hb1.size _⟩

set_option maxRecDepth 100000 in
set_option maxHeartbeats 4000000 in
theorem specEval_none2 (s : ByteArray) {b f : Int} {n k : Nat} (w : World) {x : Sx × STy} {r : R7} (hR : x.1.ev (k + 1) [] ⟨k, n, false⟩ = (none, r)) (hn : n ≤ 1) (hf : k ≤ 5000) (ha : x.1.an) (hw : x.1.bw) (hwf : x.1.wf) (hty : x.1.typ [] = some x.2) (hst : Calls Tryz.prog 6 #[.string s, .int .i64 b, .int .i64 f] w (StartPost (some x.1) n k w)) : Calls Tryz.prog 4 #[.string s, .int .i64 b, .int .i64 f] w (VqPost (evO (none, r)) w) := by
  have HC := hid hst
  have HV := hid (fun (w1 w2 : World) (rb : Nat) (h : Hd) (a1 : TIn w1 (fun _ => True) x.1.tree h) (a2 : Kept w1 w2) (a3 : w1.heap.size ≤ rb) (a4 : w1.heap.size ≤ w2.heap.size) (a5 : MRun w2 rb ⟨k, n, false⟩) => eval_ready a1 a2 a3 a4 a5 hn hf ha hw hwf hty)
  rw [hR] at HV
  clear hst hR
  by_cases hfd : r.failed = true
  · have HO := hid (show evO (none, r) = some (({ data := #[102, 97, 105, 108] } : ByteArray), 0) by simp [evO, hfd])
    have HFD := hid hfd
    clear hfd
    go_enter Tryz.func4, Tryz.ntmps4
    go_wp2_with (first
      | (go_at_call 7; refine HEV.out.mono ?_; rintro e w3 ⟨hg3, hr3, kk, nn, pp, pl, pc, fa, fp, fl2, fc, np2, nl2, nc2, vp, vl, vc2, rfl⟩; have g2 := (mrun_cells hr3).2.2.1; rw [HFD.out] at g2; have hrl3 := lt_of_block hr3; have HG3 := hid hg3; clear hg3 hr3)
      | (go_at_call 6; refine HC.out.mono ?_; rintro e w2 ⟨hb2, w1, h, rb, rfl, htr, hk, hrb1, hrb2, hz12, hrun⟩; have HEV := hid (HV.out w1 w2 rb h htr hk hrb1 hz12 hrun); have hrl2 := lt_of_block hrun; have HB2 := hid hb2; clear htr hk hrun hb2))
    ((try simp only [Exit.inBlock, Exit.then]); refine bodyPost_ret (results_tmp3 rfl _ _ _) rfl ?_)
    rw [HO.out]
    have hbW : Below w.heap.size w (((w2.alloc (.cells #[.string h.a, .slice h.p h.l h.c] 27)).alloc (.cells #[] 9)).alloc (.cells #[] 34)) := ((HB2.out.alloc HB2.out.size _).alloc (by have := HB2.out.size; simp; omega) _).alloc (by have := HB2.out.size; simp; omega) _
    have hb3 : Below w.heap.size w w3 := below_rb hbW HG3.out hbW.size hrb2
    exact ⟨rfl, hb3.alloc hb3.size _⟩
  · have hff : r.failed = false := by simpa using hfd
    have HO := hid (show evO (none, r) = none by simp [evO, hff])
    have HFD := hid hff
    clear hfd hff
    go_enter Tryz.func4, Tryz.ntmps4
    go_wp2_with (first
      | (go_at_call 7; refine HEV.out.mono ?_; rintro e w3 ⟨hg3, hr3, kk, nn, pp, pl, pc, fa, fp, fl2, fc, np2, nl2, nc2, vp, vl, vc2, rfl⟩; have g2 := (mrun_cells hr3).2.2.1; rw [HFD.out] at g2; have hrl3 := lt_of_block hr3; have HG3 := hid hg3; clear hg3 hr3)
      | (go_at_call 6; refine HC.out.mono ?_; rintro e w2 ⟨hb2, w1, h, rb, rfl, htr, hk, hrb1, hrb2, hz12, hrun⟩; have HEV := hid (HV.out w1 w2 rb h htr hk hrb1 hz12 hrun); have hrl2 := lt_of_block hrun; have HB2 := hid hb2; clear htr hk hrun hb2))
    ((try simp only [Exit.inBlock, Exit.then]); refine bodyPost_ret (results_tmp3 rfl _ _ _) rfl ?_)
    rw [HO.out]
    have hbW : Below w.heap.size w (((w2.alloc (.cells #[.string h.a, .slice h.p h.l h.c] 27)).alloc (.cells #[] 9)).alloc (.cells #[] 34)) := ((HB2.out.alloc HB2.out.size _).alloc (by have := HB2.out.size; simp; omega) _).alloc (by have := HB2.out.size; simp; omega) _
    have hb3 : Below w.heap.size w w3 := below_rb hbW HG3.out hbW.size hrb2
    exact ⟨rfl, hb3.alloc hb3.size _⟩

set_option maxRecDepth 100000 in
set_option maxHeartbeats 4000000 in
theorem specEval_some (s : ByteArray) {b f : Int} {n k : Nat} (w : World) {x : Sx × STy} {v : Sv} {r : R7} (hR : x.1.ev (k + 1) [] ⟨k, n, false⟩ = (some v, r)) (hvt : VTy v x.2) (hff : r.failed = false) (hn : n ≤ 1) (hf : k ≤ 5000) (ha : x.1.an) (hw : x.1.bw) (hwf : x.1.wf) (hty : x.1.typ [] = some x.2) (hst : Calls Tryz.prog 6 #[.string s, .int .i64 b, .int .i64 f] w (StartPost (some x.1) n k w)) : Calls Tryz.prog 4 #[.string s, .int .i64 b, .int .i64 f] w (VqPost (evO (some v, r)) w) := by
  have HC := hid hst
  have HV := hid (fun (w1 w2 : World) (rb : Nat) (h : Hd) (a1 : TIn w1 (fun _ => True) x.1.tree h) (a2 : Kept w1 w2) (a3 : w1.heap.size ≤ rb) (a4 : w1.heap.size ≤ w2.heap.size) (a5 : MRun w2 rb ⟨k, n, false⟩) => eval_ready a1 a2 a3 a4 a5 hn hf ha hw hwf hty)
  rw [hR] at HV
  clear hst hR
  have htn := typ_n hty
  have hpl := prt_len hvt
  have HFD := hid hff
  have HO := hid (show evO (some v, r) = some (v.prt.txt, r.bit) from rfl)
  have HL := hid (fun (S : Nat → Prop) (w0 W0 : World) (cs : List Value) (hm : MvIn S w0 W0 v cs) (w : World) (hs : SKept S (fun _ => True) W0 w) => (show Calls Tryz.prog 8 #[.agg cs.toArray, .int .i64 12000] w fun e w' => e = .returned (.int .i64 ((12000 - v.prt.write.length : Nat) : Int)) ∧ Below w.heap.size w w' from l7Left_any x.2 v cs 12000 (12000 - v.prt.write.length) hvt hm (by omega) (by omega) w hs))
  have HP := hid (fun (S : Nat → Prop) (w0 W0 : World) (cs : List Value) (hm : MvIn S w0 W0 v cs) (w : World) (hs : SKept S (fun _ => True) W0 w) => l7Print_any x.2 v cs hvt hm (by omega) w hs)
  obtain ⟨M, hM⟩ : ∃ M, 12000 - v.prt.write.length = M := ⟨_, rfl⟩
  obtain ⟨X, hX⟩ : ∃ X, v.prt.txt = X := ⟨_, rfl⟩
  obtain ⟨bt, hbt⟩ : ∃ bt, r.bit = bt := ⟨_, rfl⟩
  have hM2 : M ≤ 12000 := by omega
  rw [hM] at HL
  rw [hX] at HP HO
  rw [hbt] at HO
  have HBT := hid hbt
  clear hvt hff hpl hM hX hbt
  go_enter Tryz.func4, Tryz.ntmps4
  go_wp2_with (first
    | (go_at_call 8; refine (HLL.out _ (skept_alloc _ _)).mono ?_; rintro e w5 ⟨rfl, hb5⟩; have hr5 := mrun_below (mrun_below HR3.out ((Below.refl _ _).alloc (Nat.le_refl _) _) hrl3) hb5 (by simp; omega); have m1 := (mrun_cells hr5).2.1; rw [HBT.out] at m1; obtain ⟨⟨t0, t1, t2, t3, t4, t5, t6⟩, -⟩ := cells_of_7 (block_below (heap_new w3 (.cells #[.string kk, .int .i64 nn, .slice pp pl pc, .string fa, .slice fp fl2 fc, .slice np2 nl2 nc2, .slice vp vl vc2] 34) w3.heap.size rfl) hb5 (by simp)); have HB5 := hid hb5; have SK5 := hid (fun (S : Nat → Prop) => skept_below (skept_alloc (S := S) w3 (.cells #[.string kk, .int .i64 nn, .slice pp pl pc, .string fa, .slice fp fl2 fc, .slice np2 nl2 nc2, .slice vp vl vc2] 34)) hb5); clear hb5 hr5)
    | (go_at_call 7; refine HEV.out.mono ?_; rintro e w3 ⟨hg3, hr3, cs, rfl, hm3⟩; obtain ⟨kk, nn, pp, pl, pc, fa, fp, fl2, fc, np2, nl2, nc2, vp, vl, vc2, rfl⟩ := hm3.seven; have g2 := (mrun_cells hr3).2.2.1; rw [HFD.out] at g2; have hrl3 := lt_of_block hr3; have HG3 := hid hg3; have HR3 := hid hr3; have HLL := hid (HL.out _ _ _ _ hm3); have HPP := hid (HP.out _ _ _ _ hm3); clear hg3 hr3 hm3)
    | (go_at_call 6; refine HC.out.mono ?_; rintro e w2 ⟨hb2, w1, h, rb, rfl, htr, hk, hrb1, hrb2, hz12, hrun⟩; have HEV := hid (HV.out w1 w2 rb h htr hk hrb1 hz12 hrun); have hrl2 := lt_of_block hrun; have HB2 := hid hb2; clear htr hk hrun hb2))
  have hrbl : rb < w3.heap.size := hrl3
  have KS := hid (fun (W : World) (hb : Below w5.heap.size w5 W) => (show W.cell? ⟨w3.heap.size, 0, none⟩ = some (.string kk) ∧ W.cell? ⟨w3.heap.size, 1, none⟩ = some (.int .i64 nn) ∧ W.cell? ⟨w3.heap.size, 2, none⟩ = some (.slice pp pl pc) ∧ W.cell? ⟨w3.heap.size, 3, none⟩ = some (.string fa) ∧ W.cell? ⟨w3.heap.size, 4, none⟩ = some (.slice fp fl2 fc) ∧ W.cell? ⟨w3.heap.size, 5, none⟩ = some (.slice np2 nl2 nc2) ∧ W.cell? ⟨w3.heap.size, 6, none⟩ = some (.slice vp vl vc2) ∧ W.cell? ⟨rb, 1, none⟩ = some (.int .i64 (bt : Int)) from by
    have c := (cells_of_7 (block_below (block_below (heap_new w3 (.cells #[.string kk, .int .i64 nn, .slice pp pl pc, .string fa, .slice fp fl2 fc, .slice np2 nl2 nc2, .slice vp vl vc2] 34) w3.heap.size rfl) HB5.out (by simp)) hb (by have := HB5.out.size; simp at this; omega))).1
    have hr6 := mrun_below (mrun_below (mrun_below HR3.out ((Below.refl _ _).alloc (Nat.le_refl _) _) hrl3) HB5.out (by simp; omega)) hb (by have := HB5.out.size; simp at this; omega)
    have m2 := (mrun_cells hr6).2.1
    rw [HBT.out] at m2
    exact ⟨c.1, c.2.1, c.2.2.1, c.2.2.2.1, c.2.2.2.2.1, c.2.2.2.2.2.1, c.2.2.2.2.2.2, m2⟩))
  have D0 := hid (KS.out _ (Below.refl _ _))
  go_region_held3 (fun w' => w'.cell? ⟨w3.heap.size, 0, none⟩ = some (.string kk) ∧ w'.cell? ⟨w3.heap.size, 1, none⟩ = some (.int .i64 nn) ∧ w'.cell? ⟨w3.heap.size, 2, none⟩ = some (.slice pp pl pc) ∧ w'.cell? ⟨w3.heap.size, 3, none⟩ = some (.string fa) ∧ w'.cell? ⟨w3.heap.size, 4, none⟩ = some (.slice fp fl2 fc) ∧ w'.cell? ⟨w3.heap.size, 5, none⟩ = some (.slice np2 nl2 nc2) ∧ w'.cell? ⟨w3.heap.size, 6, none⟩ = some (.slice vp vl vc2) ∧ w'.cell? ⟨rb, 1, none⟩ = some (.int .i64 (bt : Int)))
    (first | with_reducible exact D0.out | with_reducible exact E6.out | with_reducible exact KS.out _ (Below.refl _ _).drew)
    (first
      | (go_at_call 9; refine (HPP.out _ (skept_below (SK5.out _) (by first | exact (Below.refl _ _).drew | exact Below.refl _ _))).mono ?_; rintro e w6 ⟨rfl, hb6⟩; have hb06 := below_nx hb6 (by first | exact (Below.refl _ _).drew | exact Below.refl _ _); have E6 := hid (KS.out w6 hb06); have HB6 := hid hb06; clear hb6 hb06))
  go_wp2_with fail
  ((try simp only [Exit.inBlock, Exit.then]); refine bodyPost_ret (results_tmp3 rfl _ _ _) rfl ?_)
  rw [HO.out]
  have hbW : Below w.heap.size w (((w2.alloc (.cells #[.string h.a, .slice h.p h.l h.c] 27)).alloc (.cells #[] 9)).alloc (.cells #[] 34)) := ((HB2.out.alloc HB2.out.size _).alloc (by have := HB2.out.size; simp; omega) _).alloc (by have := HB2.out.size; simp; omega) _
  have hb3 : Below w.heap.size w w3 := below_rb hbW HG3.out hbW.size hrb2
  have hb5 := (hb3.alloc hb3.size (.cells #[.string kk, .int .i64 nn, .slice pp pl pc, .string fa, .slice fp fl2 fc, .slice np2 nl2 nc2, .slice vp vl vc2] 34)).trans (HB5.out.mono (by have := hb3.size; simp; omega))
  exact ⟨rfl, hb5.trans (HB6.out.mono hb5.size)⟩
end Go.Proofs.YtmjhfekcbagibaaGreatDoor
