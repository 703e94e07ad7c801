/- The model's reading of a whole text. -/
import Derived.Test.YtfogjomebcponaaDoorSpecA
import Derived.Deep.RegionHeld3
import Derived.Deep.RegionWith
namespace Go.Proofs.YtfogjomebcponaaDoor
open Go.RowKit

/-- What a function leaves that returns a tree and whether it is one. -/
def TreePost (o : Option Tree) (w : World) (e : Ending) (w' : World) : Prop :=
  Below w.heap.size w w' ∧
  match o with
  | some t => ∃ h : Hd, e = .returned (.tuple #[.agg #[.string h.a, .slice h.p h.l h.c], .bool true]) ∧ TIn w' (fun b => w.heap.size ≤ b) t h
  | none => ∃ a p l c, e = .returned (.tuple #[.agg #[.string a, .slice p l c], .bool false]) ∧ l ≤ maxLen
theorem treePost_none {w w' : World} {a : ByteArray} {p : Option Addr} {l c : Nat} (hl : l ≤ maxLen) (hb : Below w.heap.size w w') : TreePost none w (.returned (.tuple #[.agg #[.string a, .slice p l c], .bool false])) w' := ⟨hb, a, p, l, c, rfl, hl⟩
theorem treePost_some {w w' : World} {t : Tree} {a : ByteArray} {p : Option Addr} {l c : Nat} (ht : TIn w' (fun b => w.heap.size ≤ b) t ⟨a, p, l, c⟩) (hb : Below w.heap.size w w') : TreePost (some t) w (.returned (.tuple #[.agg #[.string a, .slice p l c], .bool true])) w' := ⟨hb, ⟨a, p, l, c⟩, rfl, ht⟩
theorem TreePost.none {w w' : World} {e : Ending} (h : TreePost none w e w') : ∃ a p l c, e = .returned (.tuple #[.agg #[.string a, .slice p l c], .bool false]) ∧ l ≤ maxLen ∧ Below w.heap.size w w' :=
  let ⟨hb, a, p, l, c, he, hl⟩ := h; ⟨a, p, l, c, he, hl, hb⟩
theorem TreePost.some {w w' : World} {e : Ending} {t : Tree} (h : TreePost (some t) w e w') : ∃ a p l c, e = .returned (.tuple #[.agg #[.string a, .slice p l c], .bool true]) ∧ Below w.heap.size w w' ∧ TIn w' (fun b => w.heap.size ≤ b) t ⟨a, p, l, c⟩ :=
  let ⟨hb, h, he, ht⟩ := h; ⟨h.a, h.p, h.l, h.c, he, hb, ht⟩

/-- A result's block ahead of a call, another one behind it, the result stored. -/
theorem result_below {w w1 : World} {o : Obj} (hb : Below (w.alloc o).heap.size (w.alloc o) w1) (o1 : Obj) (x y : Value) : Below w.heap.size w (((w1.alloc o1).setCell ⟨w.heap.size, 0, none⟩ x).setCell ⟨w.heap.size, 1, none⟩ y) := by
  have hz := hb.size
  simp at hz
  exact ((((((Below.refl w.heap.size w).alloc (Nat.le_refl _) o).trans (hb.mono (by simp))).alloc (by omega) o1).setCell (Nat.le_refl _) x).setCell (Nat.le_refl _) y)
theorem result_tree {w w1 : World} {o : Obj} {t : Tree} {h : Hd} (_hb : Below (w.alloc o).heap.size (w.alloc o) w1) (ht : TIn w1 (fun b => (w.alloc o).heap.size ≤ b) t h) (o1 : Obj) (x y : Value) :
    TIn (((w1.alloc o1).setCell ⟨w.heap.size, 0, none⟩ x).setCell ⟨w.heap.size, 1, none⟩ y) (fun b => w.heap.size ≤ b) t h := by
  refine ht.keep (fun k hk hl => ?_) (fun k hk _ => by simp at hk; omega)
  simp at hk
  rw [Below.heap_setCell _ _ _ _ (by simp; omega), Below.heap_setCell _ _ _ _ (by simp; omega)]
  exact heap_alloc_old w1 o1 hl

set_option maxRecDepth 100000 in
set_option maxHeartbeats 1000000 in
theorem l1Parse_any (s : ByteArray) (hs : s.size ≤ 400000000) (w : World) : Calls Tryd.prog 18 #[.string s] w (TreePost (parse s) w) := by
  by_cases h1 : s.size ≤ 12000
  · cases hr : rd s 101 0 with
    | none =>
      have hp : parse s = none := by rw [parse, if_pos h1, hr]
      rw [hp]
      have HC := hid (fun W => l1Read_any s h1 101 0 0 W (Nat.zero_le _) rfl)
      have HR := hid hr
      have d2 : ((-1 : Int) == (s.size : Int)) = false := beq_eq_false_iff_ne.2 (by omega)
      clear hr hp
      go_enter Tryd.func18, Tryd.ntmps18
      go_wp2_with (go_at_call 31; refine (HC.out _).mono ?_; rintro e w1 hp; obtain ⟨pa, pp, pl, pc, rfl, hpl, hb1⟩ := hp.none HR.out; clear hp; have k0 := fun o => cells_of_pair (pair_alloc (block_below (heap_new w (.cells #[.string ByteArray.empty, .slice none 0 0] 27) _ rfl) hb1 (by simp)) o))
      refine bodyPost_ret (v := .tuple #[.agg #[.string pa, .slice pp pl pc], .bool false]) (by simp [results, Tryd.results18, go_sem, (k0 _).1, (k0 _).2.1]) rfl ?_
      go_light
      exact treePost_none hpl (result_below hb1 _ _ _)
    | some x =>
      obtain ⟨t, n⟩ := x
      have HC := hid (fun W => l1Read_any s h1 101 0 0 W (Nat.zero_le _) rfl)
      have HR := hid hr
      by_cases hn : n = s.size
      · have hp : parse s = some t := by rw [parse, if_pos h1, hr]; simp [hn]
        rw [hp]
        have d2 : ((n : Int) == (s.size : Int)) = true := beq_iff_eq.2 (by omega)
        clear hr hp hn
        go_enter Tryd.func18, Tryd.ntmps18
        go_wp2_with (go_at_call 31; refine (HC.out _).mono ?_; rintro e w1 hp; obtain ⟨pa, pp, pl, pc, rfl, hb1, ht⟩ := hp.some HR.out; clear hp; have k0 := fun o => cells_of_pair (pair_alloc (block_below (heap_new w (.cells #[.string ByteArray.empty, .slice none 0 0] 27) _ rfl) hb1 (by simp)) o))
        refine bodyPost_ret (v := .tuple #[.agg #[.string pa, .slice pp pl pc], .bool true]) (by simp [results, Tryd.results18, go_sem, (k0 _).1, (k0 _).2.1]) rfl ?_
        go_light
        exact treePost_some (result_tree hb1 ht _ _ _) (result_below hb1 _ _ _)
      · have hp : parse s = none := by rw [parse, if_pos h1, hr]; simp [hn]
        rw [hp]
        have d2 : ((n : Int) == (s.size : Int)) = false := beq_eq_false_iff_ne.2 (by omega)
        clear hr hp hn
        go_enter Tryd.func18, Tryd.ntmps18
        go_wp2_with (go_at_call 31; refine (HC.out _).mono ?_; rintro e w1 hp; obtain ⟨pa, pp, pl, pc, rfl, hb1, ht⟩ := hp.some HR.out; clear hp; have k0 := fun o => cells_of_pair (pair_alloc (block_below (heap_new w (.cells #[.string ByteArray.empty, .slice none 0 0] 27) _ rfl) hb1 (by simp)) o))
        refine bodyPost_ret (v := .tuple #[.agg #[.string pa, .slice pp pl pc], .bool false]) (by simp [results, Tryd.results18, go_sem, (k0 _).1, (k0 _).2.1]) rfl ?_
        go_light
        exact treePost_none ht.len (result_below hb1 _ _ _)
  · have hp : parse s = none := by rw [parse, if_neg h1]
    rw [hp]
    have hs' : s.size ≤ 9223372036854775807 := by omega
    have h2 : 12000 < s.size := by omega
    clear hp h1
    go_enter Tryd.func18, Tryd.ntmps18
    go_wp2_with fail
    refine bodyPost_ret (v := .tuple #[.agg #[.string ByteArray.empty, .slice none 0 0], .bool false]) (by simp [results, Tryd.results18, go_sem]; rfl) rfl ?_
    exact treePost_none (Nat.zero_le _) ((Below.refl _ _).alloc (by simp) _)
/-- What was there is as it was, but for block r (a result's own). -/
structure But (r : Nat) (W w : World) : Prop where
  os : w.os = W.os
  tape : w.tape = W.tape
  output : w.output = W.output
  size : W.heap.size ≤ w.heap.size
  block : ∀ k, k < W.heap.size → k ≠ r → w.heap[k]? = W.heap[k]?
  res : ∃ z u t, w.heap[r]? = some (.cells #[z, u] t (0, 0))
theorem But.start {r : Nat} {W : World} {z u : Value} {t : TypeId} (h : W.heap[r]? = some (.cells #[z, u] t (0, 0))) : But r W W.drew := ⟨rfl, rfl, rfl, Nat.le_refl _, fun _ _ _ => rfl, z, u, t, h⟩
theorem But.call {r : Nat} {W Wx w2 : World} (h : But r W Wx) (hr : r < W.heap.size) (h2 : Below Wx.heap.size Wx w2) : But r W w2 :=
  ⟨h2.os.trans h.os, h2.tape.trans h.tape, h2.output.trans h.output, Nat.le_trans h.size h2.size, fun k hk hkr => (h2.block k (Nat.lt_of_lt_of_le hk h.size)).trans (h.block k hk hkr),
    let ⟨z, u, t, e⟩ := h.res; ⟨z, u, t, (h2.block r (Nat.lt_of_lt_of_le hr h.size)).trans e⟩⟩
theorem Below.thenH {W Wx w2 : World} (h : Below W.heap.size W Wx) (h2 : Below Wx.heap.size Wx w2) : Below W.heap.size W w2 := h.trans (h2.mono h.size)
theorem keepH {W Wx : World} {b r : Nat} {x y z u : Value} (h1 : W.cell? ⟨b, 0, none⟩ = some x ∧ W.cell? ⟨b, 1, none⟩ = some y ∧ W.frozen? ⟨b, 0, none⟩ = false ∧ W.frozen? ⟨b, 1, none⟩ = false)
    (h0 : W.cell? ⟨r, 0, none⟩ = some z ∧ W.cell? ⟨r, 1, none⟩ = some u ∧ W.frozen? ⟨r, 0, none⟩ = false ∧ W.frozen? ⟨r, 1, none⟩ = false) (hb : b < W.heap.size) (hr : r < W.heap.size) (h : Below W.heap.size W Wx) :
    Wx.cell? ⟨b, 0, none⟩ = some x ∧ Wx.cell? ⟨b, 1, none⟩ = some y ∧ Wx.cell? ⟨r, 0, none⟩ = some z ∧ Wx.cell? ⟨r, 1, none⟩ = some u ∧ Wx.frozen? ⟨r, 0, none⟩ = false ∧ Wx.frozen? ⟨r, 1, none⟩ = false :=
  ⟨(h.cell (p := ⟨b, 0, none⟩) hb).trans h1.1, (h.cell (p := ⟨b, 1, none⟩) hb).trans h1.2.1, (h.cell (p := ⟨r, 0, none⟩) hr).trans h0.1, (h.cell (p := ⟨r, 1, none⟩) hr).trans h0.2.1,
    (h.frozen (p := ⟨r, 0, none⟩) hr).trans h0.2.2.1, (h.frozen (p := ⟨r, 1, none⟩) hr).trans h0.2.2.2⟩
theorem below_same {B : Nat} {w W : World} {a b : Addr} {x y : Value} (h : Below B w ((W.setCell a x).setCell b y)) : Below B w ((W.drew.setCell a x).setCell b y) := ⟨h.os, h.tape, h.output, h.size, h.block⟩
/-- What is left at the end of a function that reads a tree, looks at it and returns it with a word. -/
theorem tree_close {w w1 w3 : World} {o o1 : Obj} {t : Tree} {h : Hd} (hb1 : Below (w.alloc o).heap.size (w.alloc o) w1) (ht : TIn w1 (fun b => (w.alloc o).heap.size ≤ b) t h)
    (hb : Below (w1.alloc o1).heap.size (w1.alloc o1) w3) (x y : Value) :
    TIn ((w3.setCell ⟨w.heap.size, 0, none⟩ x).setCell ⟨w.heap.size, 1, none⟩ y) (fun b => w.heap.size ≤ b) t h ∧ Below w.heap.size w ((w3.setCell ⟨w.heap.size, 0, none⟩ x).setCell ⟨w.heap.size, 1, none⟩ y) := by
  have z1 := hb1.size
  have z3 := hb.size
  simp at z1 z3
  refine ⟨ht.keep (fun k hk hl => ?_) (fun k hk _ => by simp at hk; omega), ?_⟩
  · simp at hk
    rw [Below.heap_setCell _ _ _ _ (by simp; omega), Below.heap_setCell _ _ _ _ (by simp; omega), hb.block k (by simp; omega)]
    exact heap_alloc_old w1 o1 hl
  · exact (((((((Below.refl w.heap.size w).alloc (Nat.le_refl _) o).trans (hb1.mono (by simp))).alloc (by omega) o1).trans (hb.mono (by simp; omega))).setCell (Nat.le_refl _) x).setCell (Nat.le_refl _) y)
end Go.Proofs.YtfogjomebcponaaDoor
