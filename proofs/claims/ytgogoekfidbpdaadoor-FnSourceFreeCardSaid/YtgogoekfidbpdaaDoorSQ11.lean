/- Merged: SpecC, Tin3, ImplA, ImplB. -/
import Derived.Deep.RegionHeld3
import Derived.Deep.RegionWith
import Derived.Test.YtgogoekfidbpdaaDoorSQ8
namespace Go.Proofs.YtgogoekfidbpdaaDoor
open Go.RowKit

/-- What a function leaves that returns a tree and whether it is one. -/
def TreePost (o : Option Tree) (w : World) (e : Ending) (w' : World) : Prop :=
  Below w.heap.size w w' ∧
  match o with
  | some t => ∃ h : Hd, e = .returned (.tuple #[.agg #[.string h.a, .slice h.p h.l h.c], .bool true]) ∧ TIn w' (fun b => w.heap.size ≤ b) t h
  | none => ∃ a p l c, e = .returned (.tuple #[.agg #[.string a, .slice p l c], .bool false]) ∧ l ≤ maxLen
theorem treePost_none {w w' : World} {a : ByteArray} {p : Option Addr} {l c : Nat} (hl : l ≤ maxLen) (hb : Below w.heap.size w w') : TreePost none w (.returned (.tuple #[.agg #[.string a, .slice p l c], .bool false])) w' := ⟨hb, a, p, l, c, rfl, hl⟩
theorem treePost_some {w w' : World} {t : Tree} {a : ByteArray} {p : Option Addr} {l c : Nat} (ht : TIn w' (fun b => w.heap.size ≤ b) t ⟨a, p, l, c⟩) (hb : Below w.heap.size w w') : TreePost (some t) w (.returned (.tuple #[.agg #[.string a, .slice p l c], .bool true])) w' := ⟨hb, ⟨a, p, l, c⟩, rfl, ht⟩
theorem TreePost.none {w w' : World} {e : Ending} (h : TreePost none w e w') : ∃ a p l c, e = .returned (.tuple #[.agg #[.string a, .slice p l c], .bool false]) ∧ l ≤ maxLen ∧ Below w.heap.size w w' :=
  let ⟨hb, a, p, l, c, he, hl⟩ := h; ⟨a, p, l, c, he, hl, hb⟩
theorem TreePost.some {w w' : World} {e : Ending} {t : Tree} (h : TreePost (some t) w e w') : ∃ a p l c, e = .returned (.tuple #[.agg #[.string a, .slice p l c], .bool true]) ∧ Below w.heap.size w w' ∧ TIn w' (fun b => w.heap.size ≤ b) t ⟨a, p, l, c⟩ :=
  let ⟨hb, h, he, ht⟩ := h; ⟨h.a, h.p, h.l, h.c, he, hb, ht⟩

/-- A result's block ahead of a call, another one behind it, the result stored. -/
theorem result_below {w w1 : World} {o : Obj} (hb : Below (w.alloc o).heap.size (w.alloc o) w1) (o1 : Obj) (x y : Value) : Below w.heap.size w (((w1.alloc o1).setCell ⟨w.heap.size, 0, none⟩ x).setCell ⟨w.heap.size, 1, none⟩ y) := by
  have hz := hb.size
  simp at hz
  exact ((((((Below.refl w.heap.size w).alloc (Nat.le_refl _) o).trans (hb.mono (by simp))).alloc (by omega) o1).setCell (Nat.le_refl _) x).setCell (Nat.le_refl _) y)
theorem result_tree {w w1 : World} {o : Obj} {t : Tree} {h : Hd} (_hb : Below (w.alloc o).heap.size (w.alloc o) w1) (ht : TIn w1 (fun b => (w.alloc o).heap.size ≤ b) t h) (o1 : Obj) (x y : Value) :
    TIn (((w1.alloc o1).setCell ⟨w.heap.size, 0, none⟩ x).setCell ⟨w.heap.size, 1, none⟩ y) (fun b => w.heap.size ≤ b) t h := by
  refine ht.keep (fun k hk hl => ?_) (fun k hk _ => by simp at hk; omega)
  simp at hk
  rw [Below.heap_setCell _ _ _ _ (by simp; omega), Below.heap_setCell _ _ _ _ (by simp; omega)]
  exact heap_alloc_old w1 o1 hl

set_option maxRecDepth 100000 in
set_option maxHeartbeats 1000000 in
theorem l1Parse_any (s : ByteArray) (hs : s.size ≤ 400000000) (w : World) : Calls Tryd.prog 34 #[.string s] w (TreePost (parse s) w) := by
  by_cases h1 : s.size ≤ 12000
  · cases hr : rd s 101 0 with
    | none =>
      have hp : parse s = none := by rw [parse, if_pos h1, hr]
      rw [hp]
      have HC := hid (fun W => l1Read_any s h1 101 0 0 W (Nat.zero_le _) rfl)
      have HR := hid hr
      have d2 : ((-1 : Int) == (s.size : Int)) = false := beq_eq_false_iff_ne.2 (by omega)
      clear hr hp
      go_enter Tryd.func34, Tryd.ntmps34
      go_wp2_with (go_at_call 49; refine (HC.out _).mono ?_; rintro e w1 hp; obtain ⟨pa, pp, pl, pc, rfl, hpl, hb1⟩ := hp.none HR.out; clear hp; have k0 := fun o => cells_of_pair (pair_alloc (block_below (heap_new w (.cells #[.string ByteArray.empty, .slice none 0 0] 44) _ rfl) hb1 (by simp)) o))
      refine bodyPost_ret (v := .tuple #[.agg #[.string pa, .slice pp pl pc], .bool false]) (by simp [results, Tryd.results34, go_sem, (k0 _).1, (k0 _).2.1]) rfl ?_
      go_light
      exact treePost_none hpl (result_below hb1 _ _ _)
    | some x =>
      obtain ⟨t, n⟩ := x
      have HC := hid (fun W => l1Read_any s h1 101 0 0 W (Nat.zero_le _) rfl)
      have HR := hid hr
      by_cases hn : n = s.size
      · have hp : parse s = some t := by rw [parse, if_pos h1, hr]; simp [hn]
        rw [hp]
        have d2 : ((n : Int) == (s.size : Int)) = true := beq_iff_eq.2 (by omega)
        clear hr hp hn
        go_enter Tryd.func34, Tryd.ntmps34
        go_wp2_with (go_at_call 49; refine (HC.out _).mono ?_; rintro e w1 hp; obtain ⟨pa, pp, pl, pc, rfl, hb1, ht⟩ := hp.some HR.out; clear hp; have k0 := fun o => cells_of_pair (pair_alloc (block_below (heap_new w (.cells #[.string ByteArray.empty, .slice none 0 0] 44) _ rfl) hb1 (by simp)) o))
        refine bodyPost_ret (v := .tuple #[.agg #[.string pa, .slice pp pl pc], .bool true]) (by simp [results, Tryd.results34, go_sem, (k0 _).1, (k0 _).2.1]) rfl ?_
        go_light
        exact treePost_some (result_tree hb1 ht _ _ _) (result_below hb1 _ _ _)
      · have hp : parse s = none := by rw [parse, if_pos h1, hr]; simp [hn]
        rw [hp]
        have d2 : ((n : Int) == (s.size : Int)) = false := beq_eq_false_iff_ne.2 (by omega)
        clear hr hp hn
        go_enter Tryd.func34, Tryd.ntmps34
        go_wp2_with (go_at_call 49; refine (HC.out _).mono ?_; rintro e w1 hp; obtain ⟨pa, pp, pl, pc, rfl, hb1, ht⟩ := hp.some HR.out; clear hp; have k0 := fun o => cells_of_pair (pair_alloc (block_below (heap_new w (.cells #[.string ByteArray.empty, .slice none 0 0] 44) _ rfl) hb1 (by simp)) o))
        refine bodyPost_ret (v := .tuple #[.agg #[.string pa, .slice pp pl pc], .bool false]) (by simp [results, Tryd.results34, go_sem, (k0 _).1, (k0 _).2.1]) rfl ?_
        go_light
        exact treePost_none ht.len (result_below hb1 _ _ _)
  · have hp : parse s = none := by rw [parse, if_neg h1]
    rw [hp]
    have hs' : s.size ≤ 9223372036854775807 := by omega
    have h2 : 12000 < s.size := by omega
    clear hp h1
    go_enter Tryd.func34, Tryd.ntmps34
    go_wp2_with fail
    refine bodyPost_ret (v := .tuple #[.agg #[.string ByteArray.empty, .slice none 0 0], .bool false]) (by simp [results, Tryd.results34, go_sem]; rfl) rfl ?_
    exact treePost_none (Nat.zero_le _) ((Below.refl _ _).alloc (by simp) _)
/-- What was there is as it was, but for block r (a result's own). -/
structure But (r : Nat) (W w : World) : Prop where
  os : w.os = W.os
  tape : w.tape = W.tape
  output : w.output = W.output
  size : W.heap.size ≤ w.heap.size
  block : ∀ k, k < W.heap.size → k ≠ r → w.heap[k]? = W.heap[k]?
  res : ∃ z u t, w.heap[r]? = some (.cells #[z, u] t (0, 0))
theorem But.start {r : Nat} {W : World} {z u : Value} {t : TypeId} (h : W.heap[r]? = some (.cells #[z, u] t (0, 0))) : But r W W.drew := ⟨rfl, rfl, rfl, Nat.le_refl _, fun _ _ _ => rfl, z, u, t, h⟩
theorem But.call {r : Nat} {W Wx w2 : World} (h : But r W Wx) (hr : r < W.heap.size) (h2 : Below Wx.heap.size Wx w2) : But r W w2 :=
  ⟨h2.os.trans h.os, h2.tape.trans h.tape, h2.output.trans h.output, Nat.le_trans h.size h2.size, fun k hk hkr => (h2.block k (Nat.lt_of_lt_of_le hk h.size)).trans (h.block k hk hkr),
    let ⟨z, u, t, e⟩ := h.res; ⟨z, u, t, (h2.block r (Nat.lt_of_lt_of_le hr h.size)).trans e⟩⟩
theorem Below.thenH {W Wx w2 : World} (h : Below W.heap.size W Wx) (h2 : Below Wx.heap.size Wx w2) : Below W.heap.size W w2 := h.trans (h2.mono h.size)
theorem keepH {W Wx : World} {b r : Nat} {x y z u : Value} (h1 : W.cell? ⟨b, 0, none⟩ = some x ∧ W.cell? ⟨b, 1, none⟩ = some y ∧ W.frozen? ⟨b, 0, none⟩ = false ∧ W.frozen? ⟨b, 1, none⟩ = false)
    (h0 : W.cell? ⟨r, 0, none⟩ = some z ∧ W.cell? ⟨r, 1, none⟩ = some u ∧ W.frozen? ⟨r, 0, none⟩ = false ∧ W.frozen? ⟨r, 1, none⟩ = false) (hb : b < W.heap.size) (hr : r < W.heap.size) (h : Below W.heap.size W Wx) :
    Wx.cell? ⟨b, 0, none⟩ = some x ∧ Wx.cell? ⟨b, 1, none⟩ = some y ∧ Wx.cell? ⟨r, 0, none⟩ = some z ∧ Wx.cell? ⟨r, 1, none⟩ = some u ∧ Wx.frozen? ⟨r, 0, none⟩ = false ∧ Wx.frozen? ⟨r, 1, none⟩ = false :=
  ⟨(h.cell (p := ⟨b, 0, none⟩) hb).trans h1.1, (h.cell (p := ⟨b, 1, none⟩) hb).trans h1.2.1, (h.cell (p := ⟨r, 0, none⟩) hr).trans h0.1, (h.cell (p := ⟨r, 1, none⟩) hr).trans h0.2.1,
    (h.frozen (p := ⟨r, 0, none⟩) hr).trans h0.2.2.1, (h.frozen (p := ⟨r, 1, none⟩) hr).trans h0.2.2.2⟩
theorem below_same {B : Nat} {w W : World} {a b : Addr} {x y : Value} (h : Below B w ((W.setCell a x).setCell b y)) : Below B w ((W.drew.setCell a x).setCell b y) := ⟨h.os, h.tape, h.output, h.size, h.block⟩
/-- What is left at the end of a function that reads a tree, looks at it and returns it with a word. -/
theorem tree_close {w w1 w3 : World} {o o1 : Obj} {t : Tree} {h : Hd} (hb1 : Below (w.alloc o).heap.size (w.alloc o) w1) (ht : TIn w1 (fun b => (w.alloc o).heap.size ≤ b) t h)
    (hb : Below (w1.alloc o1).heap.size (w1.alloc o1) w3) (x y : Value) :
    TIn ((w3.setCell ⟨w.heap.size, 0, none⟩ x).setCell ⟨w.heap.size, 1, none⟩ y) (fun b => w.heap.size ≤ b) t h ∧ Below w.heap.size w ((w3.setCell ⟨w.heap.size, 0, none⟩ x).setCell ⟨w.heap.size, 1, none⟩ y) := by
  have z1 := hb1.size
  have z3 := hb.size
  simp at z1 z3
  refine ⟨ht.keep (fun k hk hl => ?_) (fun k hk _ => by simp at hk; omega), ?_⟩
  · simp at hk
    rw [Below.heap_setCell _ _ _ _ (by simp; omega), Below.heap_setCell _ _ _ _ (by simp; omega), hb.block k (by simp; omega)]
    exact heap_alloc_old w1 o1 hl
  · exact (((((((Below.refl w.heap.size w).alloc (Nat.le_refl _) o).trans (hb1.mono (by simp))).alloc (by omega) o1).trans (hb.mono (by simp; omega))).setCell (Nat.le_refl _) x).setCell (Nat.le_refl _) y)
end Go.Proofs.YtgogoekfidbpdaaDoor

namespace Go.Proofs.YtgogoekfidbpdaaDoor
open Go.RowKit

theorem tin3 {w : World} {S : Nat → Prop} {q x y : Tree} {h : Hd} (ht : TIn w S (.node [q, x, y]) h) : ∃ (b cap : Nat) (A : Nat → Hd), h = ⟨ByteArray.empty, some ⟨b, 0, none⟩, 3, cap⟩ ∧ (3 ≤ cap ∧ cap ≤ maxLen) ∧
    (∀ i, i < 3 → w.cell? ⟨b, i * 2, none⟩ = some (.string (A i).a)) ∧ (∀ i, i < 3 → w.cell? ⟨b, i * 2 + 1, none⟩ = some (.slice (A i).p (A i).l (A i).c)) ∧ TIn w S q (A 0) ∧ TIn w S x (A 1) ∧ TIn w S y (A 2) := by
  cases ht with
  | node ps b cap A hp hl hc hS hA hB hps => exact ⟨b, cap, A, rfl, ⟨hl, hc⟩, hA, hB, hps 0 q rfl, hps 1 x rfl, hps 2 y rfl⟩
end Go.Proofs.YtgogoekfidbpdaaDoor

namespace Go.Proofs.YtgogoekfidbpdaaDoor
open Go.RowKit

set_option maxHeartbeats 400000 in
theorem isAtomByte_any (c : Nat) (w : World) :
    Calls Tryd.prog 58 #[.int .u8 (c : Int)] w fun e w' => e = .returned (.bool (atomB c)) ∧ w = w' := by
  go_enter Tryd.func58, Tryd.ntmps58
  go_wp2
  all_goals
    go_ret
    refine ⟨ret_bool ?_, rfl⟩
    first
    | exact (atomB_t (by omega)).symm
    | (rw [Bool.eq_iff_iff]; simp [atomB]; omega)

theorem Tryd.infoPhrase : (Tryd.prog.info? 62).map (fun i => (i.zero, i.size, i.bytes)) = some (some (.agg #[.string ByteArray.empty, .slice none 0 0]), 2, 40) := by kernel_rfl

/-- What the program's reading of a part leaves. -/
def PhrasePost (s : ByteArray) (k i : Nat) (w : World) (e : Ending) (w' : World) : Prop :=
  Below w.heap.size w w' ∧
  match rd s k i with
  | some (t, n) => ∃ h : Hd, e = .returned (.tuple #[.agg #[.string h.a, .slice h.p h.l h.c], .int .i64 (n : Int), .bool true]) ∧ TIn w' (fun b => w.heap.size ≤ b) t h
  | none => ∃ a p l c, ∃ m : Int, e = .returned (.tuple #[.agg #[.string a, .slice p l c], .int .i64 m, .bool false]) ∧ l ≤ maxLen
theorem phrasePost_none {s : ByteArray} {k i : Nat} {w w' : World} {a : ByteArray} {p : Option Addr} {l c : Nat} {m : Int} (h : rd s k i = none) (hl : l ≤ maxLen) (hb : Below w.heap.size w w') :
    PhrasePost s k i w (.returned (.tuple #[.agg #[.string a, .slice p l c], .int .i64 m, .bool false])) w' := by
  refine ⟨hb, ?_⟩
  rw [h]; exact ⟨a, p, l, c, m, rfl, hl⟩
theorem phrasePost_some {s : ByteArray} {k i n : Nat} {t : Tree} {w w' : World} {a : ByteArray} {p : Option Addr} {l c : Nat} (h : rd s k i = some (t, n)) (ht : TIn w' (fun b => w.heap.size ≤ b) t ⟨a, p, l, c⟩) (hb : Below w.heap.size w w') :
    PhrasePost s k i w (.returned (.tuple #[.agg #[.string a, .slice p l c], .int .i64 (n : Int), .bool true])) w' := by
  refine ⟨hb, ?_⟩
  rw [h]; exact ⟨⟨a, p, l, c⟩, rfl, ht⟩
theorem PhrasePost.none {s : ByteArray} {k i : Nat} {w w' : World} {e : Ending} (h : PhrasePost s k i w e w') (hr : rd s k i = none) :
    ∃ a p l c, ∃ m : Int, e = .returned (.tuple #[.agg #[.string a, .slice p l c], .int .i64 m, .bool false]) ∧ l ≤ maxLen ∧ Below w.heap.size w w' := by
  obtain ⟨hb, h⟩ := h
  rw [hr] at h
  obtain ⟨a, p, l, c, m, he, hl⟩ := h
  exact ⟨a, p, l, c, m, he, hl, hb⟩
theorem PhrasePost.some {s : ByteArray} {k i n : Nat} {t : Tree} {w w' : World} {e : Ending} (h : PhrasePost s k i w e w') (hr : rd s k i = some (t, n)) :
    ∃ a p l c, e = .returned (.tuple #[.agg #[.string a, .slice p l c], .int .i64 (n : Int), .bool true]) ∧ Below w.heap.size w w' ∧ TIn w' (fun b => w.heap.size ≤ b) t ⟨a, p, l, c⟩ := by
  obtain ⟨hb, h⟩ := h
  rw [hr] at h
  obtain ⟨h, he, ht⟩ := h
  exact ⟨h.a, h.p, h.l, h.c, he, hb, ht⟩

/-- What a round that reads a part leaves: the list's block and the result's, what has been gathered, old memory. -/
theorem round_close {w wr w1 w2 : World} {e : TypeId} {up : Option Addr} {ul uc g kc : Nat} {acc : List Tree} {ab : List Hd} {p : Tree} {pa : ByteArray} {pp : Option Addr} {pl pc : Nat} {o1 o2 : Obj}
    (hbel : Below w.heap.size w wr) (hB0 : wr.heap[w.heap.size]? = some (.cells #[.string ByteArray.empty, .slice none 0 0] e (0, 0))) (hB1 : wr.heap[w.heap.size + 1]? = some (.cells #[.string ByteArray.empty, .slice up ul uc] e (0, 0)))
    (hl : ab.length = acc.length) (ht : ∀ (i : Nat) (p : Tree) (x : Hd), acc[i]? = some p → ab[i]? = some x → TIn wr (fun b => w.heap.size + 2 ≤ b ∧ (Value.slice up ul uc).ownBlock ≠ some b) p x)
    (hown : wr.ownsRow (w.heap.size + 2) e 2 (.slice up ul uc) acc.length (two ab))
    (hb1 : Below wr.heap.size wr w1) (hn : TIn w1 (fun b => wr.heap.size ≤ b) p ⟨pa, pp, pl, pc⟩)
    (hg : ((w1.alloc o1).alloc o2).grownBy w2 (Value.slice up ul uc).ownBlock)
    (ho : w2.ownsRow (w.heap.size + 2) e 2 (.slice (some ⟨g, 0, none⟩) (acc.length + 1) kc) (acc.length + 1) (two ab ++ [.string pa, .slice pp pl pc]))
    (hw : (Value.slice (some ⟨g, 0, none⟩) (acc.length + 1) kc).ownBlock = (Value.slice up ul uc).ownBlock ∨ (Value.slice (some ⟨g, 0, none⟩) (acc.length + 1) kc).ownBlock = some ((w1.alloc o1).alloc o2).heap.size) :
    (w2.setCell ⟨w.heap.size + 1, 1, none⟩ (.slice (some ⟨g, 0, none⟩) (acc.length + 1) kc)).heap[w.heap.size]? = some (.cells #[.string ByteArray.empty, .slice none 0 0] e (0, 0)) ∧
    (w2.setCell ⟨w.heap.size + 1, 1, none⟩ (.slice (some ⟨g, 0, none⟩) (acc.length + 1) kc)).heap[w.heap.size + 1]? = some (.cells #[.string ByteArray.empty, .slice (some ⟨g, 0, none⟩) (acc.length + 1) kc] e (0, 0)) ∧
    AccIn (w2.setCell ⟨w.heap.size + 1, 1, none⟩ (.slice (some ⟨g, 0, none⟩) (acc.length + 1) kc)) (w.heap.size + 2) e (.slice (some ⟨g, 0, none⟩) (acc.length + 1) kc) (acc ++ [p]) ∧
    Below w.heap.size w (w2.setCell ⟨w.heap.size + 1, 1, none⟩ (.slice (some ⟨g, 0, none⟩) (acc.length + 1) kc)) := by
  have hlt := hown.lt
  have l0 := lt_of_block hB0
  have l1 := lt_of_block hB1
  have s1 := hb1.size
  have s0 := hbel.size
  have hba : Below w1.heap.size w1 ((w1.alloc o1).alloc o2) := ((Below.refl _ _).alloc (Nat.le_refl _) _).alloc (by simp) _
  have q0 := block_grown (pair_alloc (pair_alloc (block_below hB0 hb1 l0) o1) o2) hg (fun e => by have := hlt _ e; omega)
  have q1 := block_grown (pair_alloc (pair_alloc (block_below hB1 hb1 l1) o1) o2) hg (fun e => by have := hlt _ e; omega)
  have hacc := AccIn.more (a := ⟨pa, pp, pl, pc⟩) hl ht hown (by omega) hb1 hn hba ho hg hw
  refine ⟨?_, pair_setCell1 q1, hacc.setCell (by show w.heap.size + 1 < _; omega) _, ?_⟩
  · rw [Below.heap_setCell _ _ _ _ (by simp)]; exact q0
  · refine ((hbel.trans (hb1.mono s0)).trans (hba.mono (by omega))).grown hg (by simp; omega) (fun k e => ?_) |>.setCell (by show w.heap.size ≤ w.heap.size + 1; omega) _
    have := hlt k e; omega

set_option maxRecDepth 100000 in
set_option maxHeartbeats 1000000 in
theorem listAt_any (s : ByteArray) (hs : s.size ≤ 12000) (k : Nat) (ih : ∀ (i depth : Nat) (w : World), i ≤ s.size → depth + k = 101 →
      Calls Tryd.prog 43 #[.string s, .int .i64 (i : Int), .int .i64 (depth : Int)] w (PhrasePost s k i w))
    (i depth : Nat) (w : World) (hi : i < s.size) (hd : depth + (k + 1) = 101) (hd9 : depth < 100) (hb40 : byteAt s i = 40) :
    Calls Tryd.prog 57 #[.string s, .int .i64 (i : Int), .int .i64 (depth : Int)] w (PhrasePost s (k + 1) i w) := by
  have hs' : s.size ≤ 9223372036854775807 := by omega
  have HD := hid hd
  have HB40 := hid hb40
  have IH := hid ih
  have d1 : ((depth : Int) == 100) = false := beq_eq_false_iff_ne.2 (by omega)
  have hbd := hid (rd_bound s k)
  clear hd hb40 ih
  go_enter Tryd.func57, Tryd.ntmps57
  go_wp2_with fail
  go_loopw [1] (fun v wr => ∃ (j : Nat) (acc : List Tree) (up : Option Addr) (ul uc : Nat), v = .int .i64 (j : Int) ∧ i ≤ j ∧ j < s.size ∧ acc.length ≤ j ∧
      wr.heap[w.heap.size]? = some (.cells #[.string ByteArray.empty, .slice none 0 0] 62 (0, 0)) ∧ wr.heap[w.heap.size + 1]? = some (.cells #[.string ByteArray.empty, .slice up ul uc] 62 (0, 0)) ∧
      AccIn wr (w.heap.size + 2) 62 (.slice up ul uc) acc ∧ Below w.heap.size w wr ∧ Hid (∀ n, s.size < n + j → rdL s (rd s k) n j acc = rd s (k + 1) i)) (fun v _ => s.size - (intOf v).toNat)
  case atStart =>
    refine ⟨i, [], none, 0, 0, rfl, Nat.le_refl _, hi, Nat.zero_le _, ?_, ?_, AccIn.nil _ _ _, ((Below.refl _ _).alloc (by simp) _).alloc (by simp) _, fun n hn => ?_⟩
    · exact pair_alloc (heap_alloc_new w _) _
    · exact heap_new _ _ _ (by simp)
    · rw [rd_paren hi HB40.out]; exact rdL_more s _ hbd.out n _ i _ hn (by omega)
  case round =>
    obtain ⟨j, acc, up, ul, uc, rfl, hj1, hj2, hj3, hB0, hB1, hacc, hbel, hrd⟩ := hrel
    have hc := hid (fun W => IH.out (j + 1) (depth + 1) W (by omega) (by have := HD.out; omega))
    cases hr : rd s k (j + 1) with
    | none =>
      have HR := hid hr
      clear hr
      have hz := hbel.size
      have hnone : rd s (k + 1) i = none := by
        rw [← hrd.out (s.size + 1) (by omega), rdL, HR.out]
      have HN := hid hnone
      have HB0 := hid hB0
      clear hnone hrd
      go_wp2_with (go_at_call 43; refine (hc.out _).mono ?_; rintro e w1 hp; obtain ⟨pa, pp, pl, pc, pm, rfl, hpl, hb1⟩ := hp.none HR.out; clear hp; have k0 := fun o => cells_of_pair (pair_alloc (block_below hB0 hb1 (lt_of_block hB0)) o); have k1 := fun o => cells_of_pair (pair_alloc (block_below hB1 hb1 (lt_of_block hB1)) o))
      refine bodyPost_ret (v := .tuple #[.agg #[.string ByteArray.empty, .slice none 0 0], .int .i64 0, .bool false]) (by simp [results, Tryd.results57, go_sem, (k0 _).1, (k0 _).2.1]; rfl) rfl ?_
      go_light
      exact phrasePost_none HN.out (Nat.zero_le _) ((((hbel.trans (hb1.mono hz)).alloc (by have := hb1.size; omega) _).setCell (Nat.le_refl _) _).setCell (Nat.le_refl _) _)
    | some x =>
      obtain ⟨p, n⟩ := x
      have HR := hid hr
      clear hr
      have hn := hbd.out _ _ _ HR.out
      have hz := hbel.size
      have hzz := hid (lt_of_block hB1)
      by_cases hns : n < s.size
      · have d2 : ((n : Int) == (s.size : Int)) = false := beq_eq_false_iff_ne.2 (by omega)
        have HRD := hid (fun m (hm : s.size < m + 1 + j) => (hrd.out (m + 1) hm).symm)
        clear hrd
        obtain ⟨i0, hi0, hz0, hz1, hz2⟩ := info_parts Tryd.infoPhrase
        obtain ⟨ab, hab, hown, hts⟩ := hacc
        have HTS := hid hts
        clear hts
        have HOWN := hid hown
        have HAB := hid hab
        have HB0 := hid hB0
        have HB1 := hid hB1
        clear hown hab
        have hlt := HOWN.out.lt
        have HLT := hid hlt
        clear hlt
        go_wp2_with (first | (at_builtin; refine wpList_append_at _ rfl (.tmp 36) (.tmp 38) 60 rfl (w.heap.size + 2) 62 i0 (.agg #[.string ByteArray.empty, .slice none 0 0]) 2 40 Tryd.underlying60 hi0 hz0 hz1 hz2 rfl (by decide) (.slice up ul uc) acc.length (two ab) rfl (((ownsRow_under HOWN.out hb1).alloc _).alloc _) ⟨w1.heap.size + 1, 0, none⟩ 1 1 [.string pa, .slice pp pl pc] rfl rfl (cells_new2 _ _ _ _ _ (by simp)) (by intro u hu; simp at hu; rcases hu with rfl | rfl <;> rfl) (by decide) (by unfold maxLen; omega) (by omega) (by have := hb1.size; simp; omega) ?_; intro v' w2 hown2 hg2 hw2 hv2; obtain ⟨g, kc, rfl⟩ := hv2; have m0 := cells_of_pair (block_grown (pair_alloc (pair_alloc (block_below hB0 hb1 (lt_of_block hB0)) _) _) hg2 (fun e => by have := HLT.out _ e; omega)); have m1 := cells_of_pair (block_grown (pair_alloc (pair_alloc (block_below hB1 hb1 (lt_of_block hB1)) _) _) hg2 (fun e => by have := HLT.out _ e; omega)); have HG := hid hg2; have HO := hid hown2; have HW := hid hw2; clear hg2 hown2 hw2) | (go_at_call 43; refine (hc.out _).mono ?_; rintro e w1 hp; obtain ⟨pa, pp, pl, pc, rfl, hb1, ht⟩ := hp.some HR.out; clear hp; have k0 := fun o => cells_of_pair (pair_alloc (block_below hB0 hb1 (lt_of_block hB0)) o); have k1 := fun o => cells_of_pair (pair_alloc (block_below hB1 hb1 (lt_of_block hB1)) o)))
        · have h41 : ((s[n].toNat : Int) == 41) = true := by assumption
          have h41' : byteAt s n = 41 := by rw [byteAt_lt s n hns]; have h := h41; simp at h; omega
          have hrd' : rd s (k + 1) i = some (.node (acc ++ [p]), n + 1) := by
            rw [HRD.out s.size (by omega), rdL, HR.out]; simp [hns, h41']
          have hbl := round_close hbel HB0.out HB1.out HAB.out HTS.out HOWN.out hb1 ht HG.out HO.out HW.out
          refine bodyPost_ret (v := .tuple #[.agg #[.string ByteArray.empty, .slice (some ⟨g, 0, none⟩) (acc.length + 1) kc], .int .i64 ((n + 1 : Nat) : Int), .bool true]) (by simp [results, Tryd.results57, go_sem, m0.1, m0.2.1]) rfl ?_
          go_light
          refine phrasePost_some hrd' ?_ ((hbl.2.2.2.setCell (Nat.le_refl _) _).setCell (Nat.le_refl _) _)
          exact ((hbl.2.2.1.setCell (by show w.heap.size < _; omega) _).setCell (by show w.heap.size < _; omega) _).node (by simp) |>.keep (fun _ _ _ => rfl) (fun k hk _ => by omega)
        · have h41 : ((s[n].toNat : Int) == 41) = false := by assumption
          have h32 : ((s[n].toNat : Int) == 32) = true := by assumption
          have h41' : byteAt s n ≠ 41 := by rw [byteAt_lt s n hns]; have h := h41; simp at h; omega
          have h32' : byteAt s n = 32 := by rw [byteAt_lt s n hns]; have h := h32; simp at h; omega
          have hrd' : ∀ m, s.size < m + n → rdL s (rd s k) m n (acc ++ [p]) = rd s (k + 1) i := by
            intro m hm
            rw [rdL_more s _ hbd.out m s.size n _ hm (by omega), HRD.out s.size (by omega), rdL, HR.out]; simp [hns, h32']
          have hbl := round_close hbel HB0.out HB1.out HAB.out HTS.out HOWN.out hb1 ht HG.out HO.out HW.out
          go_roundw
          case rel => exact ⟨n, acc ++ [p], _, _, _, rfl, by omega, hns, by simp; omega, hbl.1, hbl.2.1, hbl.2.2.1, hbl.2.2.2, hrd'⟩
          case measure => simp [intOf]; omega
        · have h41 : ((s[n].toNat : Int) == 41) = false := by assumption
          have h32 : ((s[n].toNat : Int) == 32) = false := by assumption
          have h41' : byteAt s n ≠ 41 := by rw [byteAt_lt s n hns]; have h := h41; simp at h; omega
          have h32' : byteAt s n ≠ 32 := by rw [byteAt_lt s n hns]; have h := h32; simp at h; omega
          have hrd' : rd s (k + 1) i = none := by
            rw [HRD.out s.size (by omega), rdL, HR.out]; simp [hns, h41', h32']
          have hbl := round_close hbel HB0.out HB1.out HAB.out HTS.out HOWN.out hb1 ht HG.out HO.out HW.out
          refine bodyPost_ret (v := .tuple #[.agg #[.string ByteArray.empty, .slice none 0 0], .int .i64 0, .bool false]) (by simp [results, Tryd.results57, go_sem, m0.1, m0.2.1]; rfl) rfl ?_
          go_light
          exact phrasePost_none hrd' (Nat.zero_le _) ((hbl.2.2.2.setCell (Nat.le_refl _) _).setCell (Nat.le_refl _) _)
      · have hne : n = s.size := by omega
        have hnone : rd s (k + 1) i = none := by
          rw [← hrd.out (s.size + 1) (by omega), rdL, HR.out]; simp [hns]
        have HN := hid hnone
        have HB0 := hid hB0
        have d2 : ((n : Int) == (s.size : Int)) = true := beq_iff_eq.2 (by omega)
        clear hnone hrd hne
        go_wp2_with (go_at_call 43; refine (hc.out _).mono ?_; rintro e w1 hp; obtain ⟨pa, pp, pl, pc, rfl, hb1, ht⟩ := hp.some HR.out; clear hp; have k0 := fun o => cells_of_pair (pair_alloc (block_below hB0 hb1 (lt_of_block hB0)) o); have k1 := fun o => cells_of_pair (pair_alloc (block_below hB1 hb1 (lt_of_block hB1)) o))
        refine bodyPost_ret (v := .tuple #[.agg #[.string ByteArray.empty, .slice none 0 0], .int .i64 0, .bool false]) (by simp [results, Tryd.results57, go_sem, (k0 _).1, (k0 _).2.1]; rfl) rfl ?_
        go_light
        exact phrasePost_none HN.out (Nat.zero_le _) ((((hbel.trans (hb1.mono hz)).alloc (by have := hb1.size; omega) _).setCell (Nat.le_refl _) _).setCell (Nat.le_refl _) _)

set_option maxHeartbeats 1000000 in
theorem listAt_deep (s : ByteArray) (i : Nat) (w : World) (hr : rd s 1 i = none) :
    Calls Tryd.prog 57 #[.string s, .int .i64 (i : Int), .int .i64 ((100 : Nat) : Int)] w (PhrasePost s 1 i w) := by
  have HR := hid hr
  clear hr
  go_enter Tryd.func57, Tryd.ntmps57
  go_wp2_with fail
  refine bodyPost_ret (v := .tuple #[.agg #[.string ByteArray.empty, .slice none 0 0], .int .i64 0, .bool false]) (by simp [results, Tryd.results57, go_sem]; rfl) rfl ?_
  exact phrasePost_none HR.out (Nat.zero_le _) ((Below.refl _ _).alloc (by simp) _)

theorem phrasePost_atom {s : ByteArray} {k i n : Nat} {w w' : World} (hk : 0 < k) (hs : s.size ≤ maxLen) (hi : i ≤ s.size) (h40 : i < s.size → byteAt s i ≠ 40) (hn : n = runEnd s i) (hb : Below w.heap.size w w') :
    PhrasePost s k i w (.returned (.tuple #[.agg #[.string (s.extract i n), .slice none 0 0], .int .i64 (n : Int), .bool (decide ((i : Int) < (n : Int)))])) w' := by
  have h1 := runEnd_ge s i
  have h2 := runEnd_le s i hi
  by_cases hlt : i < s.size
  · by_cases hne : n = i
    · have d : decide ((i : Int) < (n : Int)) = false := decide_eq_false (by omega)
      rw [d]; exact phrasePost_none (rd_none_atom hk hlt (h40 hlt) (by omega)) (Nat.zero_le _) hb
    · have d : decide ((i : Int) < (n : Int)) = true := decide_eq_true (by omega)
      rw [d]
      refine phrasePost_some ?_ (.atom _ ?_ ?_) hb
      · rw [hn]; exact rd_some_atom hk hlt (h40 hlt) (by omega)
      · simp [ByteArray.size_extract]; omega
      · simp [ByteArray.size_extract]; omega
  · have d : decide ((i : Int) < (n : Int)) = false := decide_eq_false (by omega)
    rw [d]; exact phrasePost_none (rd_none_end hlt) (Nat.zero_le _) hb

set_option maxRecDepth 100000 in
set_option maxHeartbeats 1000000 in
theorem phraseAt_atom (s : ByteArray) (hs : s.size ≤ 12000) (k : Nat) (i depth : Nat) (w : World) (hi : i ≤ s.size) (hk : 0 < k) (h40 : i < s.size → byteAt s i ≠ 40) :
    Calls Tryd.prog 43 #[.string s, .int .i64 (i : Int), .int .i64 (depth : Int)] w (PhrasePost s k i w) := by
  have hs' : s.size ≤ 9223372036854775807 := by omega
  have H40 := hid h40
  have e0 : ∀ h : i < s.size, ((s[i].toNat : Int) == 40) = false := fun h => beq_eq_false_iff_ne.2 (by have := h40 h; rw [byteAt_lt s i h] at this; omega)
  clear h40
  by_cases hil : i < s.size
  · have e40 := e0 hil
    clear e0
    go_enter Tryd.func43, Tryd.ntmps43
    go_wp2_with fail
    go_loop [9] (fun v => ∃ j : Nat, i ≤ j ∧ j ≤ s.size ∧ v = .int .i64 (j : Int) ∧ Hid (runEnd s i = runEnd s j)) (fun v => s.size - (intOf v).toNat)
    case atStart => exact ⟨i, Nat.le_refl _, by omega, rfl, rfl⟩
    case round =>
      obtain ⟨j, hj1, hj2, rfl, hj⟩ := hrel
      by_cases hlt : j < s.size
      · by_cases hab : atomB s[j].toNat = true
        · go_wp2_with (go_at_call 58; refine (isAtomByte_any _ _).mono ?_; rintro e w' ⟨rfl, rfl⟩)
          go_round
          case rel => exact ⟨j + 1, by omega, by omega, by go_num, hj.out.trans (runEnd_go s j hlt (by rw [byteAt_lt s j hlt]; exact hab))⟩
          case measure => simp [intOf]; omega
        · have hab' : atomB s[j].toNat = false := by simpa using hab
          have hstop : runEnd s j = j := runEnd_stop s j (by rw [byteAt_lt s j hlt]; simp [hab'])
          have hend : Hid (j = runEnd s i) := hj.out.trans hstop |>.symm
          clear hab hstop hj
          go_wp2_with (go_at_call 58; refine (isAtomByte_any _ _).mono ?_; rintro e w' ⟨rfl, rfl⟩)
          refine bodyPost_ret (v := .tuple #[.agg #[.string (s.extract i j), .slice none 0 0], .int .i64 (j : Int), .bool (decide ((i : Int) < (j : Int)))]) (by simp [results, Tryd.results43, go_sem]) rfl ?_
          exact phrasePost_atom hk (by unfold maxLen; omega) hi H40.out hend.out ((Below.refl _ _).alloc (by simp) _)
      · have hstop : runEnd s j = j := runEnd_stop s j (by omega)
        have hend : Hid (j = runEnd s i) := hj.out.trans hstop |>.symm
        clear hstop hj
        go_wp2_with (go_at_call 58; refine (isAtomByte_any _ _).mono ?_; rintro e w' ⟨rfl, rfl⟩)
        refine bodyPost_ret (v := .tuple #[.agg #[.string (s.extract i j), .slice none 0 0], .int .i64 (j : Int), .bool (decide ((i : Int) < (j : Int)))]) (by simp [results, Tryd.results43, go_sem]) rfl ?_
        exact phrasePost_atom hk (by unfold maxLen; omega) hi H40.out hend.out ((Below.refl _ _).alloc (by simp) _)
  · clear e0
    go_enter Tryd.func43, Tryd.ntmps43
    go_wp2_with fail
    go_loop [9] (fun v => ∃ j : Nat, i ≤ j ∧ j ≤ s.size ∧ v = .int .i64 (j : Int) ∧ Hid (runEnd s i = runEnd s j)) (fun v => s.size - (intOf v).toNat)
    case atStart => exact ⟨i, Nat.le_refl _, by omega, rfl, rfl⟩
    case round =>
      obtain ⟨j, hj1, hj2, rfl, hj⟩ := hrel
      by_cases hlt : j < s.size
      · exact absurd (show i < s.size by omega) hil
      · have hstop : runEnd s j = j := runEnd_stop s j (by omega)
        have hend : Hid (j = runEnd s i) := hj.out.trans hstop |>.symm
        clear hstop hj
        go_wp2_with (go_at_call 58; refine (isAtomByte_any _ _).mono ?_; rintro e w' ⟨rfl, rfl⟩)
        refine bodyPost_ret (v := .tuple #[.agg #[.string (s.extract i j), .slice none 0 0], .int .i64 (j : Int), .bool (decide ((i : Int) < (j : Int)))]) (by simp [results, Tryd.results43, go_sem]) rfl ?_
        exact phrasePost_atom hk (by unfold maxLen; omega) hi H40.out hend.out ((Below.refl _ _).alloc (by simp) _)

set_option maxHeartbeats 1000000 in
theorem phraseAt_paren (s : ByteArray) (hs : s.size ≤ 12000) (k : Nat) (i depth : Nat) (w : World) (hi : i < s.size) (h40 : byteAt s i = 40)
    (hl : ∀ w, Calls Tryd.prog 57 #[.string s, .int .i64 (i : Int), .int .i64 (depth : Int)] w (PhrasePost s k i w)) :
    Calls Tryd.prog 43 #[.string s, .int .i64 (i : Int), .int .i64 (depth : Int)] w (PhrasePost s k i w) := by
  have hs' : s.size ≤ 9223372036854775807 := by omega
  have e40 : ((s[i].toNat : Int) == 40) = true := beq_iff_eq.2 (by rw [byteAt_lt s i hi] at h40; omega)
  have HL := hid hl
  clear h40 hl
  cases hr : rd s k i with
  | none =>
    have HR := hid hr
    clear hr
    go_enter Tryd.func43, Tryd.ntmps43
    go_wp2_with (go_at_call 57; refine (HL.out _).mono ?_; rintro e w1 hp; obtain ⟨pa, pp, pl, pc, pm, rfl, hpl, hb1⟩ := hp.none HR.out; clear hp; have k0 := cells_of_pair (block_below (heap_new w (.cells #[.string ByteArray.empty, .slice none 0 0] 62) _ rfl) hb1 (by simp)))
    refine bodyPost_ret (v := .tuple #[.agg #[.string pa, .slice pp pl pc], .int .i64 pm, .bool false]) (by simp [results, Tryd.results43, go_sem, k0.1, k0.2.1]) rfl ?_
    go_light
    exact phrasePost_none HR.out hpl (((((Below.refl w.heap.size w).alloc (Nat.le_refl _) _).trans (hb1.mono (by simp))).setCell (Nat.le_refl _) _).setCell (Nat.le_refl _) _)
  | some x =>
    obtain ⟨t, n⟩ := x
    have HR := hid hr
    clear hr
    go_enter Tryd.func43, Tryd.ntmps43
    go_wp2_with (go_at_call 57; refine (HL.out _).mono ?_; rintro e w1 hp; obtain ⟨pa, pp, pl, pc, rfl, hb1, ht⟩ := hp.some HR.out; clear hp; have k0 := cells_of_pair (block_below (heap_new w (.cells #[.string ByteArray.empty, .slice none 0 0] 62) _ rfl) hb1 (by simp)))
    refine bodyPost_ret (v := .tuple #[.agg #[.string pa, .slice pp pl pc], .int .i64 (n : Int), .bool true]) (by simp [results, Tryd.results43, go_sem, k0.1, k0.2.1]) rfl ?_
    go_light
    refine phrasePost_some HR.out ?_ (((((Below.refl w.heap.size w).alloc (Nat.le_refl _) _).trans (hb1.mono (by simp))).setCell (Nat.le_refl _) _).setCell (Nat.le_refl _) _)
    refine ht.keep (fun k hk _ => ?_) (fun k hk _ => by simp at hk; omega)
    simp at hk
    rw [Below.heap_setCell _ _ _ _ (by simp; omega), Below.heap_setCell _ _ _ _ (by simp; omega)]

/-- THE PROGRAM's READING OF A PART. -/
theorem phraseAt_any (s : ByteArray) (hs : s.size ≤ 12000) (k : Nat) : ∀ (i depth : Nat) (w : World), i ≤ s.size → depth + (k + 1) = 101 →
    Calls Tryd.prog 43 #[.string s, .int .i64 (i : Int), .int .i64 (depth : Int)] w (PhrasePost s (k + 1) i w) := by
  induction k with
  | zero =>
    intro i depth w hi hd
    by_cases hp : i < s.size ∧ byteAt s i = 40
    · obtain rfl : depth = 100 := by omega
      exact phraseAt_paren s hs 1 i 100 w hp.1 hp.2 (fun w => listAt_deep s i w (by rw [rd_paren hp.1 hp.2]; rfl))
    · exact phraseAt_atom s hs 1 i depth w hi (by omega) (fun h e => hp ⟨h, e⟩)
  | succ k ih =>
    intro i depth w hi hd
    by_cases hp : i < s.size ∧ byteAt s i = 40
    · exact phraseAt_paren s hs (k + 2) i depth w hp.1 hp.2 (fun w => listAt_any s hs (k + 1) ih i depth w hp.1 hd (by omega) hp.2)
    · exact phraseAt_atom s hs (k + 2) i depth w hi (by omega) (fun h e => hp ⟨h, e⟩)
end Go.Proofs.YtgogoekfidbpdaaDoor

namespace Go.Proofs.YtgogoekfidbpdaaDoor
open Go.RowKit

set_option maxRecDepth 100000 in
set_option maxHeartbeats 1000000 in
theorem readPhrase_any (s : ByteArray) (hs : s.size ≤ 400000000) (w : World) : Calls Tryd.prog 28 #[.string s] w (TreePost (parse s) w) := by
  by_cases h1 : s.size ≤ 12000
  · cases hr : rd s 101 0 with
    | none =>
      have hp : parse s = none := by rw [parse, if_pos h1, hr]
      rw [hp]
      have HC := hid (fun W => phraseAt_any s h1 100 0 0 W (Nat.zero_le _) rfl)
      have HR := hid hr
      clear hr hp
      go_enter Tryd.func28, Tryd.ntmps28
      go_wp2_with (go_at_call 43; refine (HC.out _).mono ?_; rintro e w1 hp; obtain ⟨pa, pp, pl, pc, pm, rfl, hpl, hb1⟩ := hp.none HR.out; clear hp; have k0 := fun o => cells_of_pair (pair_alloc (block_below (heap_new w (.cells #[.string ByteArray.empty, .slice none 0 0] 62) _ rfl) hb1 (by simp)) o))
      refine bodyPost_ret (v := .tuple #[.agg #[.string pa, .slice pp pl pc], .bool false]) (by simp [results, Tryd.results28, go_sem, (k0 _).1, (k0 _).2.1]) rfl ?_
      go_light
      exact treePost_none hpl (result_below hb1 _ _ _)
    | some x =>
      obtain ⟨t, n⟩ := x
      have HC := hid (fun W => phraseAt_any s h1 100 0 0 W (Nat.zero_le _) rfl)
      have HR := hid hr
      by_cases hn : n = s.size
      · have hp : parse s = some t := by rw [parse, if_pos h1, hr]; simp [hn]
        rw [hp]
        have d2 : ((n : Int) == (s.size : Int)) = true := beq_iff_eq.2 (by omega)
        clear hr hp hn
        go_enter Tryd.func28, Tryd.ntmps28
        go_wp2_with (go_at_call 43; refine (HC.out _).mono ?_; rintro e w1 hp; obtain ⟨pa, pp, pl, pc, rfl, hb1, ht⟩ := hp.some HR.out; clear hp; have k0 := fun o => cells_of_pair (pair_alloc (block_below (heap_new w (.cells #[.string ByteArray.empty, .slice none 0 0] 62) _ rfl) hb1 (by simp)) o))
        refine bodyPost_ret (v := .tuple #[.agg #[.string pa, .slice pp pl pc], .bool true]) (by simp [results, Tryd.results28, go_sem, (k0 _).1, (k0 _).2.1]) rfl ?_
        go_light
        exact treePost_some (result_tree hb1 ht _ _ _) (result_below hb1 _ _ _)
      · have hp : parse s = none := by rw [parse, if_pos h1, hr]; simp [hn]
        rw [hp]
        have d2 : ((n : Int) == (s.size : Int)) = false := beq_eq_false_iff_ne.2 (by omega)
        clear hr hp hn
        go_enter Tryd.func28, Tryd.ntmps28
        go_wp2_with (go_at_call 43; refine (HC.out _).mono ?_; rintro e w1 hp; obtain ⟨pa, pp, pl, pc, rfl, hb1, ht⟩ := hp.some HR.out; clear hp; have k0 := fun o => cells_of_pair (pair_alloc (block_below (heap_new w (.cells #[.string ByteArray.empty, .slice none 0 0] 62) _ rfl) hb1 (by simp)) o))
        refine bodyPost_ret (v := .tuple #[.agg #[.string pa, .slice pp pl pc], .bool false]) (by simp [results, Tryd.results28, go_sem, (k0 _).1, (k0 _).2.1]) rfl ?_
        go_light
        exact treePost_none ht.len (result_below hb1 _ _ _)
  · have hp : parse s = none := by rw [parse, if_neg h1]
    rw [hp]
    have hs' : s.size ≤ 9223372036854775807 := by omega
    have h2 : 12000 < s.size := by omega
    clear hp h1
    go_enter Tryd.func28, Tryd.ntmps28
    go_wp2_with fail
    refine bodyPost_ret (v := .tuple #[.agg #[.string ByteArray.empty, .slice none 0 0], .bool false]) (by simp [results, Tryd.results28, go_sem]; rfl) rfl ?_
    exact treePost_none (Nat.zero_le _) ((Below.refl _ _).alloc (by simp) _)

set_option maxRecDepth 100000 in
set_option maxHeartbeats 1000000 in
theorem atoms_any {w0 : World} {S : Nat → Prop} {t : Tree} {h : Hd} (ht : TIn w0 S t h) : t.size ≤ 12000 → ∀ w, Kept w0 w → w0.heap.size ≤ w.heap.size →
    Calls Tryd.prog 29 #[.agg #[.string h.a, .slice h.p h.l h.c]] w fun e w' => e = .returned (.int .i64 (t.size : Int)) ∧ Below w.heap.size w w' := by
  induction ht with
  | atom s hne hm =>
    intro _ w _ _
    go_enter Tryd.func29, Tryd.ntmps29
    go_wp2
    go_ret
    exact ⟨rfl, (Below.refl _ _).alloc (by simp) _⟩
  | node ps b cap A hp hl hc hS hA hB hps ih =>
    intro hsz w hk hw
    have HIH := hid ih
    have HA := hid hA
    have HB := hid hB
    have HK := hid hk
    have HPS := hid hps
    clear ih hA hB hk hps
    have hm : ps.length ≤ 9223372036854775807 := by unfold maxLen at hc; omega
    have HSZ := hid hsz
    have d0 : ((ps.length : Int) == 0) = false := beq_eq_false_iff_ne.2 (by omega)
    go_enter Tryd.func29, Tryd.ntmps29
    go_wp2_with fail
    go_loopw [3, 13] (fun v u wr => ∃ i : Nat, i ≤ ps.length ∧ u = .int .i64 (i : Int) ∧ v = .int .i64 (Tree.sizes (ps.take i) : Int) ∧ Below (w.heap.size + 1) (w.alloc (.cells #[.string ByteArray.empty, .slice (some ⟨b, 0, none⟩) ps.length cap] 62)) wr) (fun _ u _ => ps.length - (intOf u).toNat)
    case atStart => exact ⟨0, Nat.zero_le _, rfl, rfl, Below.refl _ _⟩
    case round =>
      obtain ⟨i, hi, rfl, rfl, hbel⟩ := hrel
      by_cases hlt : i < ps.length
      · have kb : Kept w0 wr := (HK.out.below ((Below.refl _ _).alloc (by simp) _) hw).below hbel (by omega)
        have kw : w0.heap.size ≤ wr.heap.size := by have := hbel.size; simp at this; omega
        have ca := kb.cell (HA.out i hlt)
        have cb := kb.cell (HB.out i hlt)
        obtain ⟨p, hp⟩ : ∃ p, ps[i]? = some p := ⟨ps[i], List.getElem?_eq_getElem hlt⟩
        have HP := hid hp
        have h1 := sizes_take ps i
        have h2 := size_part ps i p hp
        have HC := hid (fun W hk hs => HIH.out i p hp (by have := HSZ.out; simp only [Tree.size] at this; omega) W hk hs)
        have HKB := hid (fun o => kb.alloc kw o)
        have h3 : Tree.sizes ps ≤ 12000 := by have := HSZ.out; simpa only [Tree.size] using this
        clear hp kb hsz
        go_wp2_with (go_at_call 29; refine (HC.out _ (HKB.out _) (by simp; omega)).mono ?_; rintro e w1 ⟨rfl, hb1⟩)
        have h5 := sizes_snoc ps i p HP.out
        go_roundw
        case rel => exact ⟨i + 1, by omega, by go_num, by rw [h5]; go_num, (hbel.alloc (by have := hbel.size; simp at this; omega) _).trans (hb1.mono (by have := hbel.size; simp at this ⊢; omega))⟩
        case measure => simp [intOf]; omega
      · have hii : i = ps.length := by omega
        have HI := hid hii
        clear hii
        go_wp2_with fail
        go_ret
        refine ⟨ret_int (by rw [HI.out, List.take_length, Tree.size]), ?_⟩
        exact ((Below.refl _ _).alloc (by simp) _).trans (hbel.mono (by omega))
end Go.Proofs.YtgogoekfidbpdaaDoor
