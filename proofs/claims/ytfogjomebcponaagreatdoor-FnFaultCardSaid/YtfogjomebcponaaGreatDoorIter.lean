/- A loop over an iterator that keeps memory of its own: what the iterator owes, and the statement's law. Nothing here speaks of a program. -/
import Derived.RangeFuncNested
import Derived.RangeFuncBound
import Derived.RangeFuncCalls
import Derived.RangeFuncLeaves
import Derived.Shelf.Abstract
import Derived.Shelf.RegionOpen
import Derived.WalkKit
import Derived.OwnWalkIn
import Derived.TacticsInMore
import Derived.LoopNIn
import Derived.LoopIn
namespace Go.Proofs.YtfogjomebcponaaGreatDoor
open Go.RowKit
structure Apart (n0 B : Nat) (w w' : World) : Prop where
 os : w'.os = w.os
 tape : w'.tape = w.tape
 output : w'.output = w.output
 size : w.heap.size ≤ w'.heap.size
 block : ∀ k, k < w.heap.size → k < n0 ∨ B ≤ k → w'.heap[k]? = w.heap[k]?
theorem Apart.refl (n0 B : Nat) (w : World) : Apart n0 B w w := ⟨rfl, rfl, rfl, Nat.le_refl _, fun _ _ _ => rfl⟩
theorem Apart.trans {n0 B : Nat} {w w1 w2 : World} (h : Apart n0 B w w1) (h2 : Apart n0 B w1 w2) : Apart n0 B w w2 :=
 ⟨h2.os.trans h.os, h2.tape.trans h.tape, h2.output.trans h.output, Nat.le_trans h.size h2.size, fun k hk hb => (h2.block k (Nat.lt_of_lt_of_le hk h.size) hb).trans (h.block k hk hb)⟩
theorem Apart.putObj {n0 B : Nat} (w : World) (l : Nat) (o : Obj) (h1 : n0 ≤ l) (h2 : l < B) : Apart n0 B w (w.putObj l o) :=
 ⟨rfl, rfl, rfl, by simp, fun k _ hb => World.putObj_heap_other (by omega)⟩
theorem Apart.setCell {n0 B : Nat} (w : World) (p : Addr) (v : Value) (h1 : n0 ≤ p.block) (h2 : p.block < B) : Apart n0 B w (w.setCell p v) :=
 ⟨rfl, rfl, rfl, by simp, fun k _ hb => by
   show (w.heap.modify p.block _)[k]? = _
   rw [Array.getElem?_modify, if_neg (by omega)]⟩
theorem Apart.below {n0 B C : Nat} {w w' : World} (h : Apart n0 B w w') (h1 : C ≤ n0) (hC : C ≤ w.heap.size) : Below C w w' :=
 ⟨h.os, h.tape, h.output, h.size, fun k hk => h.block k (by omega) (Or.inl (by omega))⟩
theorem beo {C : Nat} (w : World) (l : Nat) (o : Obj) (h : C ≤ l) : Below C w (w.putObj l o) :=
 ⟨rfl, rfl, rfl, by simp, fun k hk => World.putObj_heap_other (by omega)⟩
def Iter {α : Type} (n : Nat) (P : Program) (g : Nat) (lb : Array Value) (encs : α → Array Value) (n0 : Nat) (S Sp : List α → Prop) (w : World) : Prop :=
 ∀ (l : Nat) (J Jx : List α → World → Prop) (W : World), Below w.heap.size w W → (∀ s A B, J s A → Below W.heap.size A B → J s B) → (∀ s A B, Jx s A → Below W.heap.size A B → Jx s B) →
  (∀ pre x W1, J pre W1 → YieldAt Fence.wide (n - 1) P l (encs x) W1 fun e W' =>
    (e = .returned (.bool true) ∧ J (pre ++ [x]) W' ∧ Apart n0 W.heap.size W1 W') ∨ (e = .returned (.bool false) ∧ Jx (pre ++ [x]) W')) →
  J [] W →
  CallsIn Fence.wide n P g (#[.func (.yield l) #[] #[]] ++ lb) W fun e W' => (∃ v, e = .returned v) ∧ ((∃ xs, S xs ∧ J xs W') ∨ (∃ pre, Sp pre ∧ Jx pre W'))
theorem wpIn_rangeIter {α : Type} {n : Nat} {P : Program} {g : Operand} {ps : Array Tmp} {assign body : Code} {Q : Exit → Act → World → Prop} {a : Act} {w : World}
    {gf : Nat} {lb : Array Value} (hg : a.eval g = .func (.func gf) #[] lb) (eg : ∀ args w, (callFunc gf args).run P w = .ok (.enter gf args) w)
    {encs : α → Array Value} {S Sp : List α → Prop} {n0 : Nat} (hn0 : n0 ≤ w.heap.size) (hseq : Iter (n - 1) P gf lb encs n0 S Sp w) (hn : 1 ≤ n) (hps : ∀ x, (encs x).size = ps.size)
    (I : List α → World → Prop) (Ix : Code → List α → World → Prop) (hI : ∀ s A B, I s A → Below w.heap.size A B → I s B) (hIx : ∀ c s A B, Ix c s A → Below w.heap.size A B → Ix c s B) (h0 : I [] w) (a1 : α → Act)
    (hassign : ∀ (l : Nat) (x : α) (W : World) (K : Act → World → Prop), K (a1 x) W →
      assign.wpIn (Fence.wide.inRound l) (n - 1 - 1) P (Exit.then K (fun _ _ _ => False)) { tmps := (ps.zip (encs x)).foldl (fun t (p, v) => t.setIfInBounds p v) a.tmps, defers := [] } W)
    (hbody : ∀ (l : Nat) (pre : List α) (x : α) (W : World), I pre W → body.wpIn (Fence.wide.inRound l) (n - 1 - 1) P (ownPostK (Apart n0 (w.heap.size + 2)) I Ix (pre ++ [x]) W) (a1 x) W)
    (hdone : ∀ (D : Nat) (xs : List α) (W : World), w.heap.size ≤ D → S xs → I xs W → W.heap[D]? = some (.deferred (some [])) → Q .normal { a with defers := { target := .collected D, args := #[] } :: a.defers } W)
    (hstop : ∀ (D : Nat) (c : Code) (pre : List α) (W : World), w.heap.size ≤ D → Sp pre → Ix c pre W → W.heap[D]? = some (.deferred (some [])) → c.wpIn Fence.wide n P Q { a with defers := { target := .collected D, args := #[] } :: a.defers } W) :
    (Code.rangeFunc g ps assign body).wpIn Fence.wide n P Q a w := by
 refine wpIn_rangeFunc fun fn hfn => ?_
 -- the loop's record, in a state
 obtain ⟨L, hL⟩ : ∃ L : LoopState → Option Code → Loop, L = fun st pe => { state := st, pending := pe, fn, tmps := a.tmps, params := ps, assign, body, defers := w.heap.size } := ⟨_, rfl⟩
 have hnew : Below w.heap.size w ((w.alloc (.deferred (some []))).alloc (.loop (L .ready none))) := ((Below.refl _ w).alloc (Nat.le_refl _) _).alloc (by simp) _
 obtain ⟨V, hV⟩ : ∃ V, (w.alloc (.deferred (some []))).alloc (.loop (L .ready none)) = V := ⟨_, rfl⟩
 rw [hV] at hnew
 have hVs : V.heap.size = w.heap.size + 2 := by rw [← hV]; simp
 have hrec : V.heap[w.heap.size + 1]? = some (.loop (L .ready none)) := by
  have := World.alloc_heap_new (w.alloc (.deferred (some []))) (.loop (L .ready none))
  rw [World.size_alloc, hV] at this; exact this
 have hdef : V.heap[w.heap.size]? = some (.deferred (some [])) := by
  rw [← hV]; exact (Below.heap_alloc _ _ _ (by simp)).trans (World.alloc_heap_new w _)
 refine ⟨w.heap.size + 1, [{ target := .collected w.heap.size, args := #[] }], V, { target := .fn (.func gf) lb, args := #[.func (.yield (w.heap.size + 1)) #[] #[]] }, V, gf,
  #[.func (.yield (w.heap.size + 1)) #[] #[]] ++ lb, V, ?_, ?_, ?_, ?_, fun _ => hn, ?_⟩
 ·rw [← hV, hL]; exact run_enterLoop_outer _ _ _ _ _
 ·simp only [resolve, hg]
  simp [go_sem]
 ·intro f' _; trivial
 ·simp [invoke, go_sem, eg]
 -- what stays of both blocks while the iterator goes on
 have keep : ∀ {A B : World} {o : Obj} {k : Nat}, k < V.heap.size → A.heap[k]? = some o → Below V.heap.size A B → B.heap[k]? = some o := fun hk h hb => (hb.block _ hk).trans h
 refine (hseq (w.heap.size + 1)
  (fun pre W => I pre W ∧ W.heap[w.heap.size + 1]? = some (.loop (L .ready none)) ∧ W.heap[w.heap.size]? = some (.deferred (some [])))
  (fun pre W => ∃ c, Ix c pre W ∧ W.heap[w.heap.size + 1]? = some (.loop (L .done (some c))) ∧ W.heap[w.heap.size]? = some (.deferred (some [])))
  V hnew
  (fun s A B hs hb => ⟨hI s A B hs.1 ⟨hb.os, hb.tape, hb.output, hb.size, fun k hk => hb.block k (by omega)⟩, keep (by omega) hs.2.1 hb, keep (by omega) hs.2.2 hb⟩)
  (fun s A B hs hb => by
    obtain ⟨c, hc, h1, h2⟩ := hs
    exact ⟨c, hIx c s A B hc ⟨hb.os, hb.tape, hb.output, hb.size, fun k hk => hb.block k (by omega)⟩, keep (by omega) h1 hb, keep (by omega) h2 hb⟩)
  ?_ ⟨hI _ _ _ h0 hnew, hrec, hdef⟩).mono ?_
 ·-- a round
  rintro pre x W ⟨hi, h1, h2⟩
  have hlt : w.heap.size + 1 < W.heap.size := (Array.getElem?_eq_some_iff.1 h1).1
  have hy := run_yield (P := P) (args := encs x) h1 (by rw [hL]; exact hps x)
  rw [hL] at hy
  refine ⟨fn, _, assign, body, hy, roundIn_of_wpIn hfn (hassign _ x W _ ⟨_, run_beginRound h1 (by rw [hL]), ?_⟩)⟩
  obtain ⟨U, hU⟩ : ∃ U, W.putObj (w.heap.size + 1) (.loop { L .ready none with state := .busy }) = U := ⟨_, rfl⟩
  rw [hU]
  have b1 : U.heap[w.heap.size + 1]? = some (.loop { L .ready none with state := .busy }) := by rw [← hU]; exact World.putObj_heap_same hlt
  have b2 : U.heap[w.heap.size]? = some (.deferred (some [])) := by rw [← hU]; exact (World.putObj_heap_other (by omega)).trans h2
  have b3 : Apart n0 V.heap.size W U := by rw [← hU]; exact Apart.putObj W _ _ (by omega) (by omega)
  have b4 : I pre U := by rw [← hU]; exact hI _ _ _ hi (beo W _ _ (by omega))
  refine wpIn_mono (hbody _ pre x U b4) ?_
  have leave : ∀ (j : Option Code) (X : World), KeepsOthers U X →
      (Instr.endRound (w.heap.size + 1) j).run P X = .ok (.bool j.isNone) (X.putObj (w.heap.size + 1) (.loop (L (if j.isNone then .ready else .done) j))) ∧
      (X.putObj (w.heap.size + 1) (.loop (L (if j.isNone then .ready else .done) j))).heap[w.heap.size + 1]? = some (.loop (L (if j.isNone then .ready else .done) j)) ∧
      (X.putObj (w.heap.size + 1) (.loop (L (if j.isNone then .ready else .done) j))).heap[w.heap.size]? = some (.deferred (some [])) := fun j X hk => by
   have c1 := hk.same _ _ b1 rfl
   have := run_endRound (P := P) j c1
   rw [hL] at this ⊢
   exact ⟨this, World.putObj_heap_same (Array.getElem?_eq_some_iff.1 c1).1, (World.putObj_heap_other (by omega)).trans (hk.same _ _ b2 rfl)⟩
  rintro e a3 X hp
  cases e with
  | normal =>
   obtain ⟨hk, hkp, hi3⟩ := hp
   obtain ⟨hr, d1, d2⟩ := leave none X hk
   rw [← hVs] at hkp
   exact ⟨_, _, hr, .inl ⟨rfl, ⟨hI _ _ _ hi3 (beo X _ _ (by omega)), d1, d2⟩, (b3.trans hkp).trans (Apart.putObj X _ _ (by omega) (by omega))⟩⟩
  | ret =>
   obtain ⟨hk, hi3⟩ := hp
   obtain ⟨hr, d1, d2⟩ := leave (some .ret) X hk
   exact ⟨_, _, hr, .inr ⟨rfl, .ret, hIx _ _ _ _ hi3 (beo X _ _ (by omega)), d1, d2⟩⟩
  | exit id =>
   obtain ⟨hk, hi3⟩ := hp
   obtain ⟨hr, d1, d2⟩ := leave (some (.exit id)) X hk
   exact ⟨_, _, hr, .inr ⟨rfl, .exit id, hIx _ _ _ _ hi3 (beo X _ _ (by omega)), d1, d2⟩⟩
  | goto t =>
   obtain ⟨hk, hi3⟩ := hp
   obtain ⟨hr, d1, d2⟩ := leave (some (.goto t)) X hk
   exact ⟨_, _, hr, .inr ⟨rfl, .goto t, hIx _ _ _ _ hi3 (beo X _ _ (by omega)), d1, d2⟩⟩
  | panic ch => exact hp.elim
  | outgrown => exact hp.elim
 ·-- behind the iterator
  rintro e X ⟨⟨v, rfl⟩, (⟨xs, hS, hi, h1, h2⟩ | ⟨pre, hSp, c, hi, h1, h2⟩)⟩
  ·exact ⟨none, _, by have := run_endLoop (P := P) h1 (by rw [hL]; simp); rw [hL] at this; exact this, hdone _ xs _ (Nat.le_refl _) hS (hI _ _ _ hi (beo X _ _ (by omega))) ((World.putObj_heap_other (by omega)).trans h2)⟩
  ·exact ⟨some c, _, by have := run_endLoop (P := P) h1 (by rw [hL]; simp); rw [hL] at this; exact this, hstop _ c pre _ (Nat.le_refl _) hSp (hIx _ _ _ _ hi (beo X _ _ (by omega))) ((World.putObj_heap_other (by omega)).trans h2)⟩
end Go.Proofs.YtfogjomebcponaaGreatDoor
