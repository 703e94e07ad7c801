/- Merged: SpecC, ImplA, ImplB, TyA, TyB, TyC, KindTy, Write, TyTx, SpecT, TyR0, TyHead, TyKids, KidsQ, HeadS, TermA, Back, TreeP, NodeP, TermU0, TyR, AssertT, Wlen, ExtP, KindS. -/
import Derived.Deep.RegionHeld3
import Derived.Deep.RegionWith
import Derived.Test.YtfogjomebcponaaGreatDoorZG11
namespace Go.Proofs.YtfogjomebcponaaGreatDoor
open Go.RowKit
set_option maxRecDepth 100000
set_option maxHeartbeats 4000000
def Tre (o : Option Tree) (w : World) (e : Ending) (w' : World) : Prop :=
 Below w.heap.size w w' ∧
 match o with
 | some t => ∃ h : Hd, e = .returned (.tuple #[.agg #[.string h.a, .slice h.p h.l h.c], .bool true]) ∧ TIn w' (fun b => w.heap.size ≤ b) t h
 | none => ∃ a p l c, e = .returned (.tuple #[.agg #[.string a, .slice p l c], .bool false]) ∧ l ≤ maxLen
theorem tre {w w' : World} {a : ByteArray} {p : Option Addr} {l c : Nat} (hl : l ≤ maxLen) (hb : Below w.heap.size w w') : Tre none w (.returned (.tuple #[.agg #[.string a, .slice p l c], .bool false])) w' := ⟨hb, a, p, l, c, rfl, hl⟩
theorem trp {w w' : World} {t : Tree} {a : ByteArray} {p : Option Addr} {l c : Nat} (ht : TIn w' (fun b => w.heap.size ≤ b) t ⟨a, p, l, c⟩) (hb : Below w.heap.size w w') : Tre (some t) w (.returned (.tuple #[.agg #[.string a, .slice p l c], .bool true])) w' := ⟨hb, ⟨a, p, l, c⟩, rfl, ht⟩
theorem Tre.none {w w' : World} {e : Ending} (h : Tre none w e w') : ∃ a p l c, e = .returned (.tuple #[.agg #[.string a, .slice p l c], .bool false]) ∧ l ≤ maxLen ∧ Below w.heap.size w w' :=
 let ⟨hb, a, p, l, c, he, hl⟩ := h; ⟨a, p, l, c, he, hl, hb⟩
theorem Tre.some {w w' : World} {e : Ending} {t : Tree} (h : Tre (some t) w e w') : ∃ a p l c, e = .returned (.tuple #[.agg #[.string a, .slice p l c], .bool true]) ∧ Below w.heap.size w w' ∧ TIn w' (fun b => w.heap.size ≤ b) t ⟨a, p, l, c⟩ :=
 let ⟨hb, h, he, ht⟩ := h; ⟨h.a, h.p, h.l, h.c, he, hb, ht⟩
theorem reu {w w1 : World} {o : Obj} (hb : Below (w.alloc o).heap.size (w.alloc o) w1) (o1 : Obj) (x y : Value) : Below w.heap.size w (((w1.alloc o1).setCell ⟨w.heap.size, 0, none⟩ x).setCell ⟨w.heap.size, 1, none⟩ y) := by
 have hz := hb.size
 simp at hz
 exact ((((((Below.refl w.heap.size w).alloc (Nat.le_refl _) o).trans (hb.mono (by simp))).alloc (by omega) o1).setCell (Nat.le_refl _) x).setCell (Nat.le_refl _) y)
theorem result_tree {w w1 : World} {o : Obj} {t : Tree} {h : Hd} (_hb : Below (w.alloc o).heap.size (w.alloc o) w1) (ht : TIn w1 (fun b => (w.alloc o).heap.size ≤ b) t h) (o1 : Obj) (x y : Value) :
    TIn (((w1.alloc o1).setCell ⟨w.heap.size, 0, none⟩ x).setCell ⟨w.heap.size, 1, none⟩ y) (fun b => w.heap.size ≤ b) t h := by
 refine ht.keep (fun k hk hl => ?_) (fun k hk _ => by simp at hk; omega)
 simp at hk
 rw [Below.heap_setCell _ _ _ _ (by simp; omega), Below.heap_setCell _ _ _ _ (by simp; omega)]
 exact heap_alloc_old w1 o1 hl
theorem lpa (s : ByteArray) (hs : s.size ≤ 400000000) (w : World) : Calls Tryz.prog 54 #[.string s] w (Tre (parse s) w) := by
 by_cases h1 : s.size ≤ 12000
 ·cases hr : rd s 101 0 with
  | none =>
   have hp : parse s = none := by rw [parse, if_pos h1, hr]
   rw [hp]
   have HC := hid (fun W => l1Read_any s h1 101 0 0 W (Nat.zero_le _) rfl)
   have HR := hid hr
   have d2 : ((-1 : Int) == (s.size : Int)) = false := beq_eq_false_iff_ne.2 (by omega)
   clear hr hp
   go_enter Tryz.func54, Tryz.ntmps54
   go_wp2_with (go_at_call 93; refine (HC.out _).mono ?_; rintro e w1 hp; obtain ⟨pa, pp, pl, pc, rfl, hpl, hb1⟩ := hp.none HR.out; clear hp; have k0 := fun o => cel (pai (blo (hea w (.cells #[.string ByteArray.empty, .slice none 0 0] 43) _ rfl) hb1 (by simp)) o))
   refine bodyPost_ret (v := .tuple #[.agg #[.string pa, .slice pp pl pc], .bool false]) (by simp [results, Tryz.results54, go_sem, (k0 _).1, (k0 _).2.1]) rfl ?_
   go_light
   exact tre hpl (reu hb1 _ _ _)
  | some x =>
   obtain ⟨t, n⟩ := x
   have HC := hid (fun W => l1Read_any s h1 101 0 0 W (Nat.zero_le _) rfl)
   have HR := hid hr
   by_cases hn : n = s.size
   ·have hp : parse s = some t := by rw [parse, if_pos h1, hr]; simp [hn]
    rw [hp]
    have d2 : ((n : Int) == (s.size : Int)) = true := beq_iff_eq.2 (by omega)
    clear hr hp hn
    go_enter Tryz.func54, Tryz.ntmps54
    go_wp2_with (go_at_call 93; refine (HC.out _).mono ?_; rintro e w1 hp; obtain ⟨pa, pp, pl, pc, rfl, hb1, ht⟩ := hp.some HR.out; clear hp; have k0 := fun o => cel (pai (blo (hea w (.cells #[.string ByteArray.empty, .slice none 0 0] 43) _ rfl) hb1 (by simp)) o))
    refine bodyPost_ret (v := .tuple #[.agg #[.string pa, .slice pp pl pc], .bool true]) (by simp [results, Tryz.results54, go_sem, (k0 _).1, (k0 _).2.1]) rfl ?_
    go_light
    exact trp (result_tree hb1 ht _ _ _) (reu hb1 _ _ _)
   ·have hp : parse s = none := by rw [parse, if_pos h1, hr]; simp [hn]
    rw [hp]
    have d2 : ((n : Int) == (s.size : Int)) = false := beq_eq_false_iff_ne.2 (by omega)
    clear hr hp hn
    go_enter Tryz.func54, Tryz.ntmps54
    go_wp2_with (go_at_call 93; refine (HC.out _).mono ?_; rintro e w1 hp; obtain ⟨pa, pp, pl, pc, rfl, hb1, ht⟩ := hp.some HR.out; clear hp; have k0 := fun o => cel (pai (blo (hea w (.cells #[.string ByteArray.empty, .slice none 0 0] 43) _ rfl) hb1 (by simp)) o))
    refine bodyPost_ret (v := .tuple #[.agg #[.string pa, .slice pp pl pc], .bool false]) (by simp [results, Tryz.results54, go_sem, (k0 _).1, (k0 _).2.1]) rfl ?_
    go_light
    exact tre ht.len (reu hb1 _ _ _)
 ·have hp : parse s = none := by rw [parse, if_neg h1]
  rw [hp]
  have hs' : s.size ≤ 9223372036854775807 := by omega
  have h2 : 12000 < s.size := by omega
  clear hp h1
  go_enter Tryz.func54, Tryz.ntmps54
  go_wp2_with fail
  refine bodyPost_ret (v := .tuple #[.agg #[.string ByteArray.empty, .slice none 0 0], .bool false]) (by simp [results, Tryz.results54, go_sem]; rfl) rfl ?_
  exact tre (Nat.zero_le _) ((Below.refl _ _).alloc (by simp) _)
structure But (r : Nat) (W w : World) : Prop where
 os : w.os = W.os
 tape : w.tape = W.tape
 output : w.output = W.output
 size : W.heap.size ≤ w.heap.size
 block : ∀ k, k < W.heap.size → k ≠ r → w.heap[k]? = W.heap[k]?
 res : ∃ z u t, w.heap[r]? = some (.cells #[z, u] t (0, 0))
theorem But.start {r : Nat} {W : World} {z u : Value} {t : TypeId} (h : W.heap[r]? = some (.cells #[z, u] t (0, 0))) : But r W W.drew := ⟨rfl, rfl, rfl, Nat.le_refl _, fun _ _ _ => rfl, z, u, t, h⟩
theorem But.call {r : Nat} {W Wx w2 : World} (h : But r W Wx) (hr : r < W.heap.size) (h2 : Below Wx.heap.size Wx w2) : But r W w2 :=
 ⟨h2.os.trans h.os, h2.tape.trans h.tape, h2.output.trans h.output, Nat.le_trans h.size h2.size, fun k hk hkr => (h2.block k (Nat.lt_of_lt_of_le hk h.size)).trans (h.block k hk hkr),
   let ⟨z, u, t, e⟩ := h.res; ⟨z, u, t, (h2.block r (Nat.lt_of_lt_of_le hr h.size)).trans e⟩⟩
theorem Below.thenH {W Wx w2 : World} (h : Below W.heap.size W Wx) (h2 : Below Wx.heap.size Wx w2) : Below W.heap.size W w2 := h.trans (h2.mono h.size)
theorem keepH {W Wx : World} {b r : Nat} {x y z u : Value} (h1 : W.cell? ⟨b, 0, none⟩ = some x ∧ W.cell? ⟨b, 1, none⟩ = some y ∧ W.frozen? ⟨b, 0, none⟩ = false ∧ W.frozen? ⟨b, 1, none⟩ = false)
    (h0 : W.cell? ⟨r, 0, none⟩ = some z ∧ W.cell? ⟨r, 1, none⟩ = some u ∧ W.frozen? ⟨r, 0, none⟩ = false ∧ W.frozen? ⟨r, 1, none⟩ = false) (hb : b < W.heap.size) (hr : r < W.heap.size) (h : Below W.heap.size W Wx) :
    Wx.cell? ⟨b, 0, none⟩ = some x ∧ Wx.cell? ⟨b, 1, none⟩ = some y ∧ Wx.cell? ⟨r, 0, none⟩ = some z ∧ Wx.cell? ⟨r, 1, none⟩ = some u ∧ Wx.frozen? ⟨r, 0, none⟩ = false ∧ Wx.frozen? ⟨r, 1, none⟩ = false :=
 ⟨(h.cell (p := ⟨b, 0, none⟩) hb).trans h1.1, (h.cell (p := ⟨b, 1, none⟩) hb).trans h1.2.1, (h.cell (p := ⟨r, 0, none⟩) hr).trans h0.1, (h.cell (p := ⟨r, 1, none⟩) hr).trans h0.2.1,
   (h.frozen (p := ⟨r, 0, none⟩) hr).trans h0.2.2.1, (h.frozen (p := ⟨r, 1, none⟩) hr).trans h0.2.2.2⟩
theorem below_same {B : Nat} {w W : World} {a b : Addr} {x y : Value} (h : Below B w ((W.setCell a x).setCell b y)) : Below B w ((W.drew.setCell a x).setCell b y) := ⟨h.os, h.tape, h.output, h.size, h.block⟩
theorem tree_close {w w1 w3 : World} {o o1 : Obj} {t : Tree} {h : Hd} (hb1 : Below (w.alloc o).heap.size (w.alloc o) w1) (ht : TIn w1 (fun b => (w.alloc o).heap.size ≤ b) t h)
    (hb : Below (w1.alloc o1).heap.size (w1.alloc o1) w3) (x y : Value) :
    TIn ((w3.setCell ⟨w.heap.size, 0, none⟩ x).setCell ⟨w.heap.size, 1, none⟩ y) (fun b => w.heap.size ≤ b) t h ∧ Below w.heap.size w ((w3.setCell ⟨w.heap.size, 0, none⟩ x).setCell ⟨w.heap.size, 1, none⟩ y) := by
 have z1 := hb1.size
 have z3 := hb.size
 simp at z1 z3
 refine ⟨ht.keep (fun k hk hl => ?_) (fun k hk _ => by simp at hk; omega), ?_⟩
 ·simp at hk
  rw [Below.heap_setCell _ _ _ _ (by simp; omega), Below.heap_setCell _ _ _ _ (by simp; omega), hb.block k (by simp; omega)]
  exact heap_alloc_old w1 o1 hl
 ·exact (((((((Below.refl w.heap.size w).alloc (Nat.le_refl _) o).trans (hb1.mono (by simp))).alloc (by omega) o1).trans (hb.mono (by simp; omega))).setCell (Nat.le_refl _) x).setCell (Nat.le_refl _) y)
theorem isa (c : Nat) (w : World) :
    Calls Tryz.prog 142 #[.int .u8 (c : Int)] w fun e w' => e = .returned (.bool (atomB c)) ∧ w = w' := by
 go_enter Tryz.func142, Tryz.ntmps142
 go_wp2
 all_goals
  go_ret
  refine ⟨reb ?_, rfl⟩
  first
  | exact (atomB_t (by omega)).symm
  | (rw [Bool.eq_iff_iff]; simp [atomB]; omega)
theorem Tryz.infoPhrase : (Tryz.prog.info? 118).map (fun i => (i.zero, i.size, i.bytes)) = some (some (.agg #[.string ByteArray.empty, .slice none 0 0]), 2, 40) := by kernel_rfl
def Phr (s : ByteArray) (k i : Nat) (w : World) (e : Ending) (w' : World) : Prop :=
 Below w.heap.size w w' ∧
 match rd s k i with
 | some (t, n) => ∃ h : Hd, e = .returned (.tuple #[.agg #[.string h.a, .slice h.p h.l h.c], .int .i64 (n : Int), .bool true]) ∧ TIn w' (fun b => w.heap.size ≤ b) t h
 | none => ∃ a p l c, ∃ m : Int, e = .returned (.tuple #[.agg #[.string a, .slice p l c], .int .i64 m, .bool false]) ∧ l ≤ maxLen
theorem phr {s : ByteArray} {k i : Nat} {w w' : World} {a : ByteArray} {p : Option Addr} {l c : Nat} {m : Int} (h : rd s k i = none) (hl : l ≤ maxLen) (hb : Below w.heap.size w w') :
    Phr s k i w (.returned (.tuple #[.agg #[.string a, .slice p l c], .int .i64 m, .bool false])) w' := by
 refine ⟨hb, ?_⟩
 rw [h]; exact ⟨a, p, l, c, m, rfl, hl⟩
theorem phrasePost_some {s : ByteArray} {k i n : Nat} {t : Tree} {w w' : World} {a : ByteArray} {p : Option Addr} {l c : Nat} (h : rd s k i = some (t, n)) (ht : TIn w' (fun b => w.heap.size ≤ b) t ⟨a, p, l, c⟩) (hb : Below w.heap.size w w') :
    Phr s k i w (.returned (.tuple #[.agg #[.string a, .slice p l c], .int .i64 (n : Int), .bool true])) w' := by
 refine ⟨hb, ?_⟩
 rw [h]; exact ⟨⟨a, p, l, c⟩, rfl, ht⟩
theorem Phr.none {s : ByteArray} {k i : Nat} {w w' : World} {e : Ending} (h : Phr s k i w e w') (hr : rd s k i = none) :
    ∃ a p l c, ∃ m : Int, e = .returned (.tuple #[.agg #[.string a, .slice p l c], .int .i64 m, .bool false]) ∧ l ≤ maxLen ∧ Below w.heap.size w w' := by
 obtain ⟨hb, h⟩ := h
 rw [hr] at h
 obtain ⟨a, p, l, c, m, he, hl⟩ := h
 exact ⟨a, p, l, c, m, he, hl, hb⟩
theorem Phr.some {s : ByteArray} {k i n : Nat} {t : Tree} {w w' : World} {e : Ending} (h : Phr s k i w e w') (hr : rd s k i = some (t, n)) :
    ∃ a p l c, e = .returned (.tuple #[.agg #[.string a, .slice p l c], .int .i64 (n : Int), .bool true]) ∧ Below w.heap.size w w' ∧ TIn w' (fun b => w.heap.size ≤ b) t ⟨a, p, l, c⟩ := by
 obtain ⟨hb, h⟩ := h
 rw [hr] at h
 obtain ⟨h, he, ht⟩ := h
 exact ⟨h.a, h.p, h.l, h.c, he, hb, ht⟩
theorem round_close {w wr w1 w2 : World} {e : TypeId} {up : Option Addr} {ul uc g kc : Nat} {acc : List Tree} {ab : List Hd} {p : Tree} {pa : ByteArray} {pp : Option Addr} {pl pc : Nat} {o1 o2 : Obj}
    (hbel : Below w.heap.size w wr) (hB0 : wr.heap[w.heap.size]? = some (.cells #[.string ByteArray.empty, .slice none 0 0] e (0, 0))) (hB1 : wr.heap[w.heap.size + 1]? = some (.cells #[.string ByteArray.empty, .slice up ul uc] e (0, 0)))
    (hl : ab.length = acc.length) (ht : ∀ (i : Nat) (p : Tree) (x : Hd), acc[i]? = some p → ab[i]? = some x → TIn wr (fun b => w.heap.size + 2 ≤ b ∧ (Value.slice up ul uc).ownBlock ≠ some b) p x)
    (hown : wr.ownsRow (w.heap.size + 2) e 2 (.slice up ul uc) acc.length (two ab))
    (hb1 : Below wr.heap.size wr w1) (hn : TIn w1 (fun b => wr.heap.size ≤ b) p ⟨pa, pp, pl, pc⟩)
    (hg : ((w1.alloc o1).alloc o2).grownBy w2 (Value.slice up ul uc).ownBlock)
    (ho : w2.ownsRow (w.heap.size + 2) e 2 (.slice (some ⟨g, 0, none⟩) (acc.length + 1) kc) (acc.length + 1) (two ab ++ [.string pa, .slice pp pl pc]))
    (hw : (Value.slice (some ⟨g, 0, none⟩) (acc.length + 1) kc).ownBlock = (Value.slice up ul uc).ownBlock ∨ (Value.slice (some ⟨g, 0, none⟩) (acc.length + 1) kc).ownBlock = some ((w1.alloc o1).alloc o2).heap.size) :
    (w2.setCell ⟨w.heap.size + 1, 1, none⟩ (.slice (some ⟨g, 0, none⟩) (acc.length + 1) kc)).heap[w.heap.size]? = some (.cells #[.string ByteArray.empty, .slice none 0 0] e (0, 0)) ∧
    (w2.setCell ⟨w.heap.size + 1, 1, none⟩ (.slice (some ⟨g, 0, none⟩) (acc.length + 1) kc)).heap[w.heap.size + 1]? = some (.cells #[.string ByteArray.empty, .slice (some ⟨g, 0, none⟩) (acc.length + 1) kc] e (0, 0)) ∧
    AccIn (w2.setCell ⟨w.heap.size + 1, 1, none⟩ (.slice (some ⟨g, 0, none⟩) (acc.length + 1) kc)) (w.heap.size + 2) e (.slice (some ⟨g, 0, none⟩) (acc.length + 1) kc) (acc ++ [p]) ∧
    Below w.heap.size w (w2.setCell ⟨w.heap.size + 1, 1, none⟩ (.slice (some ⟨g, 0, none⟩) (acc.length + 1) kc)) := by
 have hlt := hown.lt
 have l0 := lt_of_block hB0
 have l1 := lt_of_block hB1
 have s1 := hb1.size
 have s0 := hbel.size
 have hba : Below w1.heap.size w1 ((w1.alloc o1).alloc o2) := ((Below.refl _ _).alloc (Nat.le_refl _) _).alloc (by simp) _
 have q0 := blc (pai (pai (blo hB0 hb1 l0) o1) o2) hg (fun e => by have := hlt _ e; omega)
 have q1 := blc (pai (pai (blo hB1 hb1 l1) o1) o2) hg (fun e => by have := hlt _ e; omega)
 have hacc := AccIn.more (a := ⟨pa, pp, pl, pc⟩) hl ht hown (by omega) hb1 hn hba ho hg hw
 refine ⟨?_, par q1, hacc.setCell (by show w.heap.size + 1 < _; omega) _, ?_⟩
 ·rw [Below.heap_setCell _ _ _ _ (by simp)]; exact q0
 ·refine ((hbel.trans (hb1.mono s0)).trans (hba.mono (by omega))).grown hg (by simp; omega) (fun k e => ?_) |>.setCell (by show w.heap.size ≤ w.heap.size + 1; omega) _
  have := hlt k e; omega
theorem listAt_any (s : ByteArray) (hs : s.size ≤ 12000) (k : Nat) (ih : ∀ (i depth : Nat) (w : World), i ≤ s.size → depth + k = 101 →
      Calls Tryz.prog 122 #[.string s, .int .i64 (i : Int), .int .i64 (depth : Int)] w (Phr s k i w))
    (i depth : Nat) (w : World) (hi : i < s.size) (hd : depth + (k + 1) = 101) (hd9 : depth < 100) (hb40 : byteAt s i = 40) :
    Calls Tryz.prog 141 #[.string s, .int .i64 (i : Int), .int .i64 (depth : Int)] w (Phr s (k + 1) i w) := by
 have hs' : s.size ≤ 9223372036854775807 := by omega
 have HD := hid hd
 have HB40 := hid hb40
 have IH := hid ih
 have d1 : ((depth : Int) == 100) = false := beq_eq_false_iff_ne.2 (by omega)
 have hbd := hid (rd_bound s k)
 clear hd hb40 ih
 go_enter Tryz.func141, Tryz.ntmps141
 go_wp2_with fail
 go_loopw [1] (fun v wr => ∃ (j : Nat) (acc : List Tree) (up : Option Addr) (ul uc : Nat), v = .int .i64 (j : Int) ∧ i ≤ j ∧ j < s.size ∧ acc.length ≤ j ∧
     wr.heap[w.heap.size]? = some (.cells #[.string ByteArray.empty, .slice none 0 0] 118 (0, 0)) ∧ wr.heap[w.heap.size + 1]? = some (.cells #[.string ByteArray.empty, .slice up ul uc] 118 (0, 0)) ∧
     AccIn wr (w.heap.size + 2) 118 (.slice up ul uc) acc ∧ Below w.heap.size w wr ∧ Hid (∀ n, s.size < n + j → rdL s (rd s k) n j acc = rd s (k + 1) i)) (fun v _ => s.size - (intOf v).toNat)
 case atStart =>
  refine ⟨i, [], none, 0, 0, rfl, Nat.le_refl _, hi, Nat.zero_le _, ?_, ?_, AccIn.nil _ _ _, ((Below.refl _ _).alloc (by simp) _).alloc (by simp) _, fun n hn => ?_⟩
  ·exact pai (heap_alloc_new w _) _
  ·exact hea _ _ _ (by simp)
  ·rw [rd_paren hi HB40.out]; exact rdL_more s _ hbd.out n _ i _ hn (by omega)
 case round =>
  obtain ⟨j, acc, up, ul, uc, rfl, hj1, hj2, hj3, hB0, hB1, hacc, hbel, hrd⟩ := hrel
  have hc := hid (fun W => IH.out (j + 1) (depth + 1) W (by omega) (by have := HD.out; omega))
  cases hr : rd s k (j + 1) with
  | none =>
   have HR := hid hr
   clear hr
   have hz := hbel.size
   have hnone : rd s (k + 1) i = none := by
    rw [← hrd.out (s.size + 1) (by omega), rdL, HR.out]
   have HN := hid hnone
   have HB0 := hid hB0
   clear hnone hrd
   go_wp2_with (go_at_call 122; refine (hc.out _).mono ?_; rintro e w1 hp; obtain ⟨pa, pp, pl, pc, pm, rfl, hpl, hb1⟩ := hp.none HR.out; clear hp; have k0 := fun o => cel (pai (blo hB0 hb1 (lt_of_block hB0)) o); have k1 := fun o => cel (pai (blo hB1 hb1 (lt_of_block hB1)) o))
   refine bodyPost_ret (v := .tuple #[.agg #[.string ByteArray.empty, .slice none 0 0], .int .i64 0, .bool false]) (by simp [results, Tryz.results141, go_sem, (k0 _).1, (k0 _).2.1]; rfl) rfl ?_
   go_light
   exact phr HN.out (Nat.zero_le _) ((((hbel.trans (hb1.mono hz)).alloc (by have := hb1.size; omega) _).setCell (Nat.le_refl _) _).setCell (Nat.le_refl _) _)
  | some x =>
   obtain ⟨p, n⟩ := x
   have HR := hid hr
   clear hr
   have hn := hbd.out _ _ _ HR.out
   have hz := hbel.size
   have hzz := hid (lt_of_block hB1)
   by_cases hns : n < s.size
   ·have d2 : ((n : Int) == (s.size : Int)) = false := beq_eq_false_iff_ne.2 (by omega)
    have HRD := hid (fun m (hm : s.size < m + 1 + j) => (hrd.out (m + 1) hm).symm)
    clear hrd
    obtain ⟨i0, hi0, hz0, hz1, hz2⟩ := info_parts Tryz.infoPhrase
    obtain ⟨ab, hab, hown, hts⟩ := hacc
    have HTS := hid hts
    clear hts
    have HOWN := hid hown
    have HAB := hid hab
    have HB0 := hid hB0
    have HB1 := hid hB1
    clear hown hab
    have hlt := HOWN.out.lt
    have HLT := hid hlt
    clear hlt
    go_wp2_with (first | (at_builtin; refine wpl _ rfl (.tmp 36) (.tmp 38) 116 rfl (w.heap.size + 2) 118 i0 (.agg #[.string ByteArray.empty, .slice none 0 0]) 2 40 Tryz.underlying116 hi0 hz0 hz1 hz2 rfl (by decide) (.slice up ul uc) acc.length (two ab) rfl (((ows HOWN.out hb1).alloc _).alloc _) ⟨w1.heap.size + 1, 0, none⟩ 1 1 [.string pa, .slice pp pl pc] rfl rfl (cells_new2 _ _ _ _ _ (by simp)) (by intro u hu; simp at hu; rcases hu with rfl | rfl <;> rfl) (by decide) (by unfold maxLen; omega) (by omega) (by have := hb1.size; simp; omega) ?_; intro v' w2 hown2 hg2 hw2 hv2; obtain ⟨g, kc, rfl⟩ := hv2; have m0 := cel (blc (pai (pai (blo hB0 hb1 (lt_of_block hB0)) _) _) hg2 (fun e => by have := HLT.out _ e; omega)); have m1 := cel (blc (pai (pai (blo hB1 hb1 (lt_of_block hB1)) _) _) hg2 (fun e => by have := HLT.out _ e; omega)); have HG := hid hg2; have HO := hid hown2; have HW := hid hw2; clear hg2 hown2 hw2) | (go_at_call 122; refine (hc.out _).mono ?_; rintro e w1 hp; obtain ⟨pa, pp, pl, pc, rfl, hb1, ht⟩ := hp.some HR.out; clear hp; have k0 := fun o => cel (pai (blo hB0 hb1 (lt_of_block hB0)) o); have k1 := fun o => cel (pai (blo hB1 hb1 (lt_of_block hB1)) o)))
    ·have h41 : ((s[n].toNat : Int) == 41) = true := by assumption
     have h41' : byteAt s n = 41 := by rw [bye s n hns]; have h := h41; simp at h; omega
     have hrd' : rd s (k + 1) i = some (.node (acc ++ [p]), n + 1) := by
      rw [HRD.out s.size (by omega), rdL, HR.out]; simp [hns, h41']
     have hbl := round_close hbel HB0.out HB1.out HAB.out HTS.out HOWN.out hb1 ht HG.out HO.out HW.out
     refine bodyPost_ret (v := .tuple #[.agg #[.string ByteArray.empty, .slice (some ⟨g, 0, none⟩) (acc.length + 1) kc], .int .i64 ((n + 1 : Nat) : Int), .bool true]) (by simp [results, Tryz.results141, go_sem, m0.1, m0.2.1]) rfl ?_
     go_light
     refine phrasePost_some hrd' ?_ ((hbl.2.2.2.setCell (Nat.le_refl _) _).setCell (Nat.le_refl _) _)
     exact ((hbl.2.2.1.setCell (by show w.heap.size < _; omega) _).setCell (by show w.heap.size < _; omega) _).node (by simp) |>.keep (fun _ _ _ => rfl) (fun k hk _ => by omega)
    ·have h41 : ((s[n].toNat : Int) == 41) = false := by assumption
     have h32 : ((s[n].toNat : Int) == 32) = true := by assumption
     have h41' : byteAt s n ≠ 41 := by rw [bye s n hns]; have h := h41; simp at h; omega
     have h32' : byteAt s n = 32 := by rw [bye s n hns]; have h := h32; simp at h; omega
     have hrd' : ∀ m, s.size < m + n → rdL s (rd s k) m n (acc ++ [p]) = rd s (k + 1) i := by
      intro m hm
      rw [rdL_more s _ hbd.out m s.size n _ hm (by omega), HRD.out s.size (by omega), rdL, HR.out]; simp [hns, h32']
     have hbl := round_close hbel HB0.out HB1.out HAB.out HTS.out HOWN.out hb1 ht HG.out HO.out HW.out
     go_roundw
     case rel => exact ⟨n, acc ++ [p], _, _, _, rfl, by omega, hns, by simp; omega, hbl.1, hbl.2.1, hbl.2.2.1, hbl.2.2.2, hrd'⟩
     case measure => simp [intOf]; omega
    ·have h41 : ((s[n].toNat : Int) == 41) = false := by assumption
     have h32 : ((s[n].toNat : Int) == 32) = false := by assumption
     have h41' : byteAt s n ≠ 41 := by rw [bye s n hns]; have h := h41; simp at h; omega
     have h32' : byteAt s n ≠ 32 := by rw [bye s n hns]; have h := h32; simp at h; omega
     have hrd' : rd s (k + 1) i = none := by
      rw [HRD.out s.size (by omega), rdL, HR.out]; simp [hns, h41', h32']
     have hbl := round_close hbel HB0.out HB1.out HAB.out HTS.out HOWN.out hb1 ht HG.out HO.out HW.out
     refine bodyPost_ret (v := .tuple #[.agg #[.string ByteArray.empty, .slice none 0 0], .int .i64 0, .bool false]) (by simp [results, Tryz.results141, go_sem, m0.1, m0.2.1]; rfl) rfl ?_
     go_light
     exact phr hrd' (Nat.zero_le _) ((hbl.2.2.2.setCell (Nat.le_refl _) _).setCell (Nat.le_refl _) _)
   ·have hne : n = s.size := by omega
    have hnone : rd s (k + 1) i = none := by
     rw [← hrd.out (s.size + 1) (by omega), rdL, HR.out]; simp [hns]
    have HN := hid hnone
    have HB0 := hid hB0
    have d2 : ((n : Int) == (s.size : Int)) = true := beq_iff_eq.2 (by omega)
    clear hnone hrd hne
    go_wp2_with (go_at_call 122; refine (hc.out _).mono ?_; rintro e w1 hp; obtain ⟨pa, pp, pl, pc, rfl, hb1, ht⟩ := hp.some HR.out; clear hp; have k0 := fun o => cel (pai (blo hB0 hb1 (lt_of_block hB0)) o); have k1 := fun o => cel (pai (blo hB1 hb1 (lt_of_block hB1)) o))
    refine bodyPost_ret (v := .tuple #[.agg #[.string ByteArray.empty, .slice none 0 0], .int .i64 0, .bool false]) (by simp [results, Tryz.results141, go_sem, (k0 _).1, (k0 _).2.1]; rfl) rfl ?_
    go_light
    exact phr HN.out (Nat.zero_le _) ((((hbel.trans (hb1.mono hz)).alloc (by have := hb1.size; omega) _).setCell (Nat.le_refl _) _).setCell (Nat.le_refl _) _)
theorem listAt_deep (s : ByteArray) (i : Nat) (w : World) (hr : rd s 1 i = none) :
    Calls Tryz.prog 141 #[.string s, .int .i64 (i : Int), .int .i64 ((100 : Nat) : Int)] w (Phr s 1 i w) := by
 have HR := hid hr
 clear hr
 go_enter Tryz.func141, Tryz.ntmps141
 go_wp2_with fail
 refine bodyPost_ret (v := .tuple #[.agg #[.string ByteArray.empty, .slice none 0 0], .int .i64 0, .bool false]) (by simp [results, Tryz.results141, go_sem]; rfl) rfl ?_
 exact phr HR.out (Nat.zero_le _) ((Below.refl _ _).alloc (by simp) _)
theorem phrasePost_atom {s : ByteArray} {k i n : Nat} {w w' : World} (hk : 0 < k) (hs : s.size ≤ maxLen) (hi : i ≤ s.size) (h40 : i < s.size → byteAt s i ≠ 40) (hn : n = runEnd s i) (hb : Below w.heap.size w w') :
    Phr s k i w (.returned (.tuple #[.agg #[.string (s.extract i n), .slice none 0 0], .int .i64 (n : Int), .bool (decide ((i : Int) < (n : Int)))])) w' := by
 have h1 := runEnd_ge s i
 have h2 := runEnd_le s i hi
 by_cases hlt : i < s.size
 ·by_cases hne : n = i
  ·have d : decide ((i : Int) < (n : Int)) = false := decide_eq_false (by omega)
   rw [d]; exact phr (rd_none_atom hk hlt (h40 hlt) (by omega)) (Nat.zero_le _) hb
  ·have d : decide ((i : Int) < (n : Int)) = true := decide_eq_true (by omega)
   rw [d]
   refine phrasePost_some ?_ (.atom _ ?_ ?_) hb
   ·rw [hn]; exact rd_some_atom hk hlt (h40 hlt) (by omega)
   ·simp [ByteArray.size_extract]; omega
   ·simp [ByteArray.size_extract]; omega
 ·have d : decide ((i : Int) < (n : Int)) = false := decide_eq_false (by omega)
  rw [d]; exact phr (rd_none_end hlt) (Nat.zero_le _) hb
theorem phraseAt_atom (s : ByteArray) (hs : s.size ≤ 12000) (k : Nat) (i depth : Nat) (w : World) (hi : i ≤ s.size) (hk : 0 < k) (h40 : i < s.size → byteAt s i ≠ 40) :
    Calls Tryz.prog 122 #[.string s, .int .i64 (i : Int), .int .i64 (depth : Int)] w (Phr s k i w) := by
 have hs' : s.size ≤ 9223372036854775807 := by omega
 have H40 := hid h40
 have e0 : ∀ h : i < s.size, ((s[i].toNat : Int) == 40) = false := fun h => beq_eq_false_iff_ne.2 (by have := h40 h; rw [bye s i h] at this; omega)
 clear h40
 by_cases hil : i < s.size
 ·have e40 := e0 hil
  clear e0
  go_enter Tryz.func122, Tryz.ntmps122
  go_wp2_with fail
  go_loop [9] (fun v => ∃ j : Nat, i ≤ j ∧ j ≤ s.size ∧ v = .int .i64 (j : Int) ∧ Hid (runEnd s i = runEnd s j)) (fun v => s.size - (intOf v).toNat)
  case atStart => exact ⟨i, Nat.le_refl _, by omega, rfl, rfl⟩
  case round =>
   obtain ⟨j, hj1, hj2, rfl, hj⟩ := hrel
   by_cases hlt : j < s.size
   ·by_cases hab : atomB s[j].toNat = true
    ·go_wp2_with (go_at_call 142; refine (isa _ _).mono ?_; rintro e w' ⟨rfl, rfl⟩)
     go_round
     case rel => exact ⟨j + 1, by omega, by omega, by go_num, hj.out.trans (runEnd_go s j hlt (by rw [bye s j hlt]; exact hab))⟩
     case measure => simp [intOf]; omega
    ·have hab' : atomB s[j].toNat = false := by simpa using hab
     have hstop : runEnd s j = j := rue s j (by rw [bye s j hlt]; simp [hab'])
     have hend : Hid (j = runEnd s i) := hj.out.trans hstop |>.symm
     clear hab hstop hj
     go_wp2_with (go_at_call 142; refine (isa _ _).mono ?_; rintro e w' ⟨rfl, rfl⟩)
     refine bodyPost_ret (v := .tuple #[.agg #[.string (s.extract i j), .slice none 0 0], .int .i64 (j : Int), .bool (decide ((i : Int) < (j : Int)))]) (by simp [results, Tryz.results122, go_sem]) rfl ?_
     exact phrasePost_atom hk (by unfold maxLen; omega) hi H40.out hend.out ((Below.refl _ _).alloc (by simp) _)
   ·have hstop : runEnd s j = j := rue s j (by omega)
    have hend : Hid (j = runEnd s i) := hj.out.trans hstop |>.symm
    clear hstop hj
    go_wp2_with (go_at_call 142; refine (isa _ _).mono ?_; rintro e w' ⟨rfl, rfl⟩)
    refine bodyPost_ret (v := .tuple #[.agg #[.string (s.extract i j), .slice none 0 0], .int .i64 (j : Int), .bool (decide ((i : Int) < (j : Int)))]) (by simp [results, Tryz.results122, go_sem]) rfl ?_
    exact phrasePost_atom hk (by unfold maxLen; omega) hi H40.out hend.out ((Below.refl _ _).alloc (by simp) _)
 ·clear e0
  go_enter Tryz.func122, Tryz.ntmps122
  go_wp2_with fail
  go_loop [9] (fun v => ∃ j : Nat, i ≤ j ∧ j ≤ s.size ∧ v = .int .i64 (j : Int) ∧ Hid (runEnd s i = runEnd s j)) (fun v => s.size - (intOf v).toNat)
  case atStart => exact ⟨i, Nat.le_refl _, by omega, rfl, rfl⟩
  case round =>
   obtain ⟨j, hj1, hj2, rfl, hj⟩ := hrel
   by_cases hlt : j < s.size
   ·exact absurd (show i < s.size by omega) hil
   ·have hstop : runEnd s j = j := rue s j (by omega)
    have hend : Hid (j = runEnd s i) := hj.out.trans hstop |>.symm
    clear hstop hj
    go_wp2_with (go_at_call 142; refine (isa _ _).mono ?_; rintro e w' ⟨rfl, rfl⟩)
    refine bodyPost_ret (v := .tuple #[.agg #[.string (s.extract i j), .slice none 0 0], .int .i64 (j : Int), .bool (decide ((i : Int) < (j : Int)))]) (by simp [results, Tryz.results122, go_sem]) rfl ?_
    exact phrasePost_atom hk (by unfold maxLen; omega) hi H40.out hend.out ((Below.refl _ _).alloc (by simp) _)
theorem phraseAt_paren (s : ByteArray) (hs : s.size ≤ 12000) (k : Nat) (i depth : Nat) (w : World) (hi : i < s.size) (h40 : byteAt s i = 40)
    (hl : ∀ w, Calls Tryz.prog 141 #[.string s, .int .i64 (i : Int), .int .i64 (depth : Int)] w (Phr s k i w)) :
    Calls Tryz.prog 122 #[.string s, .int .i64 (i : Int), .int .i64 (depth : Int)] w (Phr s k i w) := by
 have hs' : s.size ≤ 9223372036854775807 := by omega
 have e40 : ((s[i].toNat : Int) == 40) = true := beq_iff_eq.2 (by rw [bye s i hi] at h40; omega)
 have HL := hid hl
 clear h40 hl
 cases hr : rd s k i with
 | none =>
  have HR := hid hr
  clear hr
  go_enter Tryz.func122, Tryz.ntmps122
  go_wp2_with (go_at_call 141; refine (HL.out _).mono ?_; rintro e w1 hp; obtain ⟨pa, pp, pl, pc, pm, rfl, hpl, hb1⟩ := hp.none HR.out; clear hp; have k0 := cel (blo (hea w (.cells #[.string ByteArray.empty, .slice none 0 0] 118) _ rfl) hb1 (by simp)))
  refine bodyPost_ret (v := .tuple #[.agg #[.string pa, .slice pp pl pc], .int .i64 pm, .bool false]) (by simp [results, Tryz.results122, go_sem, k0.1, k0.2.1]) rfl ?_
  go_light
  exact phr HR.out hpl (((((Below.refl w.heap.size w).alloc (Nat.le_refl _) _).trans (hb1.mono (by simp))).setCell (Nat.le_refl _) _).setCell (Nat.le_refl _) _)
 | some x =>
  obtain ⟨t, n⟩ := x
  have HR := hid hr
  clear hr
  go_enter Tryz.func122, Tryz.ntmps122
  go_wp2_with (go_at_call 141; refine (HL.out _).mono ?_; rintro e w1 hp; obtain ⟨pa, pp, pl, pc, rfl, hb1, ht⟩ := hp.some HR.out; clear hp; have k0 := cel (blo (hea w (.cells #[.string ByteArray.empty, .slice none 0 0] 118) _ rfl) hb1 (by simp)))
  refine bodyPost_ret (v := .tuple #[.agg #[.string pa, .slice pp pl pc], .int .i64 (n : Int), .bool true]) (by simp [results, Tryz.results122, go_sem, k0.1, k0.2.1]) rfl ?_
  go_light
  refine phrasePost_some HR.out ?_ (((((Below.refl w.heap.size w).alloc (Nat.le_refl _) _).trans (hb1.mono (by simp))).setCell (Nat.le_refl _) _).setCell (Nat.le_refl _) _)
  refine ht.keep (fun k hk _ => ?_) (fun k hk _ => by simp at hk; omega)
  simp at hk
  rw [Below.heap_setCell _ _ _ _ (by simp; omega), Below.heap_setCell _ _ _ _ (by simp; omega)]
theorem phraseAt_any (s : ByteArray) (hs : s.size ≤ 12000) (k : Nat) : ∀ (i depth : Nat) (w : World), i ≤ s.size → depth + (k + 1) = 101 →
    Calls Tryz.prog 122 #[.string s, .int .i64 (i : Int), .int .i64 (depth : Int)] w (Phr s (k + 1) i w) := by
 induction k with
 | zero =>
  intro i depth w hi hd
  by_cases hp : i < s.size ∧ byteAt s i = 40
  ·obtain rfl : depth = 100 := by omega
   exact phraseAt_paren s hs 1 i 100 w hp.1 hp.2 (fun w => listAt_deep s i w (by rw [rd_paren hp.1 hp.2]; rfl))
  ·exact phraseAt_atom s hs 1 i depth w hi (by omega) (fun h e => hp ⟨h, e⟩)
 | succ k ih =>
  intro i depth w hi hd
  by_cases hp : i < s.size ∧ byteAt s i = 40
  ·exact phraseAt_paren s hs (k + 2) i depth w hp.1 hp.2 (fun w => listAt_any s hs (k + 1) ih i depth w hp.1 hd (by omega) hp.2)
  ·exact phraseAt_atom s hs (k + 2) i depth w hi (by omega) (fun h e => hp ⟨h, e⟩)
theorem readPhrase_any (s : ByteArray) (hs : s.size ≤ 400000000) (w : World) : Calls Tryz.prog 85 #[.string s] w (Tre (parse s) w) := by
 by_cases h1 : s.size ≤ 12000
 ·cases hr : rd s 101 0 with
  | none =>
   have hp : parse s = none := by rw [parse, if_pos h1, hr]
   rw [hp]
   have HC := hid (fun W => phraseAt_any s h1 100 0 0 W (Nat.zero_le _) rfl)
   have HR := hid hr
   clear hr hp
   go_enter Tryz.func85, Tryz.ntmps85
   go_wp2_with (go_at_call 122; refine (HC.out _).mono ?_; rintro e w1 hp; obtain ⟨pa, pp, pl, pc, pm, rfl, hpl, hb1⟩ := hp.none HR.out; clear hp; have k0 := fun o => cel (pai (blo (hea w (.cells #[.string ByteArray.empty, .slice none 0 0] 118) _ rfl) hb1 (by simp)) o))
   refine bodyPost_ret (v := .tuple #[.agg #[.string pa, .slice pp pl pc], .bool false]) (by simp [results, Tryz.results85, go_sem, (k0 _).1, (k0 _).2.1]) rfl ?_
   go_light
   exact tre hpl (reu hb1 _ _ _)
  | some x =>
   obtain ⟨t, n⟩ := x
   have HC := hid (fun W => phraseAt_any s h1 100 0 0 W (Nat.zero_le _) rfl)
   have HR := hid hr
   by_cases hn : n = s.size
   ·have hp : parse s = some t := by rw [parse, if_pos h1, hr]; simp [hn]
    rw [hp]
    have d2 : ((n : Int) == (s.size : Int)) = true := beq_iff_eq.2 (by omega)
    clear hr hp hn
    go_enter Tryz.func85, Tryz.ntmps85
    go_wp2_with (go_at_call 122; refine (HC.out _).mono ?_; rintro e w1 hp; obtain ⟨pa, pp, pl, pc, rfl, hb1, ht⟩ := hp.some HR.out; clear hp; have k0 := fun o => cel (pai (blo (hea w (.cells #[.string ByteArray.empty, .slice none 0 0] 118) _ rfl) hb1 (by simp)) o))
    refine bodyPost_ret (v := .tuple #[.agg #[.string pa, .slice pp pl pc], .bool true]) (by simp [results, Tryz.results85, go_sem, (k0 _).1, (k0 _).2.1]) rfl ?_
    go_light
    exact trp (result_tree hb1 ht _ _ _) (reu hb1 _ _ _)
   ·have hp : parse s = none := by rw [parse, if_pos h1, hr]; simp [hn]
    rw [hp]
    have d2 : ((n : Int) == (s.size : Int)) = false := beq_eq_false_iff_ne.2 (by omega)
    clear hr hp hn
    go_enter Tryz.func85, Tryz.ntmps85
    go_wp2_with (go_at_call 122; refine (HC.out _).mono ?_; rintro e w1 hp; obtain ⟨pa, pp, pl, pc, rfl, hb1, ht⟩ := hp.some HR.out; clear hp; have k0 := fun o => cel (pai (blo (hea w (.cells #[.string ByteArray.empty, .slice none 0 0] 118) _ rfl) hb1 (by simp)) o))
    refine bodyPost_ret (v := .tuple #[.agg #[.string pa, .slice pp pl pc], .bool false]) (by simp [results, Tryz.results85, go_sem, (k0 _).1, (k0 _).2.1]) rfl ?_
    go_light
    exact tre ht.len (reu hb1 _ _ _)
 ·have hp : parse s = none := by rw [parse, if_neg h1]
  rw [hp]
  have hs' : s.size ≤ 9223372036854775807 := by omega
  have h2 : 12000 < s.size := by omega
  clear hp h1
  go_enter Tryz.func85, Tryz.ntmps85
  go_wp2_with fail
  refine bodyPost_ret (v := .tuple #[.agg #[.string ByteArray.empty, .slice none 0 0], .bool false]) (by simp [results, Tryz.results85, go_sem]; rfl) rfl ?_
  exact tre (Nat.zero_le _) ((Below.refl _ _).alloc (by simp) _)
theorem atoms_any {w0 : World} {S : Nat → Prop} {t : Tree} {h : Hd} (ht : TIn w0 S t h) : t.size ≤ 12000 → ∀ w, Kept w0 w → w0.heap.size ≤ w.heap.size →
    Calls Tryz.prog 104 #[.agg #[.string h.a, .slice h.p h.l h.c]] w fun e w' => e = .returned (.int .i64 (t.size : Int)) ∧ Below w.heap.size w w' := by
 induction ht with
 | atom s hne hm =>
  intro _ w _ _
  go_enter Tryz.func104, Tryz.ntmps104
  go_wp2
  go_ret
  exact ⟨rfl, (Below.refl _ _).alloc (by simp) _⟩
 | node ps b cap A hp hl hc hS hA hB hps ih =>
  intro hsz w hk hw
  have HIH := hid ih
  have HA := hid hA
  have HB := hid hB
  have HK := hid hk
  have HPS := hid hps
  clear ih hA hB hk hps
  have hm : ps.length ≤ 9223372036854775807 := by unfold maxLen at hc; omega
  have HSZ := hid hsz
  have d0 : ((ps.length : Int) == 0) = false := beq_eq_false_iff_ne.2 (by omega)
  go_enter Tryz.func104, Tryz.ntmps104
  go_wp2_with fail
  go_loopw [3, 13] (fun v u wr => ∃ i : Nat, i ≤ ps.length ∧ u = .int .i64 (i : Int) ∧ v = .int .i64 (Tree.sizes (ps.take i) : Int) ∧ Below (w.heap.size + 1) (w.alloc (.cells #[.string ByteArray.empty, .slice (some ⟨b, 0, none⟩) ps.length cap] 118)) wr) (fun _ u _ => ps.length - (intOf u).toNat)
  case atStart => exact ⟨0, Nat.zero_le _, rfl, rfl, Below.refl _ _⟩
  case round =>
   obtain ⟨i, hi, rfl, rfl, hbel⟩ := hrel
   by_cases hlt : i < ps.length
   ·have kb : Kept w0 wr := (HK.out.below ((Below.refl _ _).alloc (by simp) _) hw).below hbel (by omega)
    have kw : w0.heap.size ≤ wr.heap.size := by have := hbel.size; simp at this; omega
    have ca := kb.cell (HA.out i hlt)
    have cb := kb.cell (HB.out i hlt)
    obtain ⟨p, hp⟩ : ∃ p, ps[i]? = some p := ⟨ps[i], List.getElem?_eq_getElem hlt⟩
    have HP := hid hp
    have h1 := sizes_take ps i
    have h2 := size_part ps i p hp
    have HC := hid (fun W hk hs => HIH.out i p hp (by have := HSZ.out; simp only [Tree.size] at this; omega) W hk hs)
    have HKB := hid (fun o => kb.alloc kw o)
    have h3 : Tree.sizes ps ≤ 12000 := by have := HSZ.out; simpa only [Tree.size] using this
    clear hp kb hsz
    go_wp2_with (go_at_call 104; refine (HC.out _ (HKB.out _) (by simp; omega)).mono ?_; rintro e w1 ⟨rfl, hb1⟩)
    have h5 := sizes_snoc ps i p HP.out
    go_roundw
    case rel => exact ⟨i + 1, by omega, by go_num, by rw [h5]; go_num, (hbel.alloc (by have := hbel.size; simp at this; omega) _).trans (hb1.mono (by have := hbel.size; simp at this ⊢; omega))⟩
    case measure => simp [intOf]; omega
   ·have hii : i = ps.length := by omega
    have HI := hid hii
    clear hii
    go_wp2_with fail
    go_ret
    refine ⟨ret_int (by rw [HI.out, List.take_length, Tree.size]), ?_⟩
    exact ((Below.refl _ _).alloc (by simp) _).trans (hbel.mono (by omega))
inductive Ty where
 | bit
 | pair (a b : Ty)
 | thunk (c : Ty)
 | ret (a : Ty)
 | fn (a c : Ty)
 | choice (c d : Ty)
def Ty.val : Ty → Value
 | .bit => .iface 176 (.agg #[])
 | .pair a b => .iface 123 (.agg #[a.val, b.val])
 | .thunk c => .iface 125 (.agg #[c.val])
 | .ret a => .iface 127 (.agg #[a.val])
 | .fn a c => .iface 129 (.agg #[a.val, c.val])
 | .choice c d => .iface 130 (.agg #[c.val, d.val])
theorem Ty.val_iface (t : Ty) : ∃ u v, t.val = .iface u v := by cases t <;> exact ⟨_, _, rfl⟩
def Ty.isVal : Ty → Bool
 | .bit => true
 | .pair _ _ => true
 | .thunk _ => true
 | _ => false
def Ty.kindS (t : Ty) : ByteArray := if t.isVal then strV else strC
def Ty.headB : Ty → UInt8
 | .bit => 98
 | .pair _ _ => 42
 | .thunk _ => 117
 | .ret _ => 102
 | .fn _ _ => 62
 | .choice _ _ => 38
theorem m_head_bit (w : World) : (method 338 176 (.agg #[]) "loop.example/pushvalue/impl.head").run Tryz.prog w = .ok (218, .agg #[]) w := by kernel_rfl
theorem m_kids_bit (w : World) : (method 338 176 (.agg #[]) "loop.example/pushvalue/impl.kids").run Tryz.prog w = .ok (219, .agg #[]) w := by kernel_rfl
theorem m_kind_bit (w : World) : (method 338 176 (.agg #[]) "loop.example/pushvalue/impl.kind").run Tryz.prog w = .ok (220, .agg #[]) w := by kernel_rfl
theorem m_head_pair (x y : Value) (w : World) : (method 338 123 (.agg #[x, y]) "loop.example/pushvalue/impl.head").run Tryz.prog w = .ok (198, .agg #[x, y]) w := by kernel_rfl
theorem m_kids_pair (x y : Value) (w : World) : (method 338 123 (.agg #[x, y]) "loop.example/pushvalue/impl.kids").run Tryz.prog w = .ok (199, .agg #[x, y]) w := by kernel_rfl
theorem m_kind_pair (x y : Value) (w : World) : (method 338 123 (.agg #[x, y]) "loop.example/pushvalue/impl.kind").run Tryz.prog w = .ok (200, .agg #[x, y]) w := by kernel_rfl
theorem m_head_thunk (x : Value) (w : World) : (method 338 125 (.agg #[x]) "loop.example/pushvalue/impl.head").run Tryz.prog w = .ok (202, .agg #[x]) w := by kernel_rfl
theorem m_kids_thunk (x : Value) (w : World) : (method 338 125 (.agg #[x]) "loop.example/pushvalue/impl.kids").run Tryz.prog w = .ok (203, .agg #[x]) w := by kernel_rfl
theorem m_kind_thunk (x : Value) (w : World) : (method 338 125 (.agg #[x]) "loop.example/pushvalue/impl.kind").run Tryz.prog w = .ok (204, .agg #[x]) w := by kernel_rfl
theorem m_head_ret (x : Value) (w : World) : (method 338 127 (.agg #[x]) "loop.example/pushvalue/impl.head").run Tryz.prog w = .ok (206, .agg #[x]) w := by kernel_rfl
theorem m_kids_ret (x : Value) (w : World) : (method 338 127 (.agg #[x]) "loop.example/pushvalue/impl.kids").run Tryz.prog w = .ok (207, .agg #[x]) w := by kernel_rfl
theorem m_kind_ret (x : Value) (w : World) : (method 338 127 (.agg #[x]) "loop.example/pushvalue/impl.kind").run Tryz.prog w = .ok (208, .agg #[x]) w := by kernel_rfl
theorem m_head_fn (x y : Value) (w : World) : (method 338 129 (.agg #[x, y]) "loop.example/pushvalue/impl.head").run Tryz.prog w = .ok (210, .agg #[x, y]) w := by kernel_rfl
theorem m_kids_fn (x y : Value) (w : World) : (method 338 129 (.agg #[x, y]) "loop.example/pushvalue/impl.kids").run Tryz.prog w = .ok (211, .agg #[x, y]) w := by kernel_rfl
theorem m_kind_fn (x y : Value) (w : World) : (method 338 129 (.agg #[x, y]) "loop.example/pushvalue/impl.kind").run Tryz.prog w = .ok (212, .agg #[x, y]) w := by kernel_rfl
theorem m_head_choice (x y : Value) (w : World) : (method 338 130 (.agg #[x, y]) "loop.example/pushvalue/impl.head").run Tryz.prog w = .ok (214, .agg #[x, y]) w := by kernel_rfl
theorem m_kids_choice (x y : Value) (w : World) : (method 338 130 (.agg #[x, y]) "loop.example/pushvalue/impl.kids").run Tryz.prog w = .ok (215, .agg #[x, y]) w := by kernel_rfl
theorem mki (x y : Value) (w : World) : (method 338 130 (.agg #[x, y]) "loop.example/pushvalue/impl.kind").run Tryz.prog w = .ok (216, .agg #[x, y]) w := by kernel_rfl
theorem kind_bit (w : World) : Calls Tryz.prog 220 #[.agg #[]] w fun e w' => e = .returned (.string strV) ∧ Below w.heap.size w w' := by
 go_enter Tryz.func220, Tryz.ntmps220
 go_wp2
 go_ret
 exact ⟨rfl, (Below.refl _ _).alloc (by simp) _⟩
theorem kind_pair (x y : Value) (w : World) : Calls Tryz.prog 200 #[.agg #[x, y]] w fun e w' => e = .returned (.string strV) ∧ Below w.heap.size w w' := by
 go_enter Tryz.func200, Tryz.ntmps200
 go_wp2
 go_ret
 exact ⟨rfl, (Below.refl _ _).alloc (by simp) _⟩
theorem kind_thunk (x : Value) (w : World) : Calls Tryz.prog 204 #[.agg #[x]] w fun e w' => e = .returned (.string strV) ∧ Below w.heap.size w w' := by
 go_enter Tryz.func204, Tryz.ntmps204
 go_wp2
 go_ret
 exact ⟨rfl, (Below.refl _ _).alloc (by simp) _⟩
theorem kind_ret (x : Value) (w : World) : Calls Tryz.prog 208 #[.agg #[x]] w fun e w' => e = .returned (.string strC) ∧ Below w.heap.size w w' := by
 go_enter Tryz.func208, Tryz.ntmps208
 go_wp2
 go_ret
 exact ⟨rfl, (Below.refl _ _).alloc (by simp) _⟩
theorem kind_fn (x y : Value) (w : World) : Calls Tryz.prog 212 #[.agg #[x, y]] w fun e w' => e = .returned (.string strC) ∧ Below w.heap.size w w' := by
 go_enter Tryz.func212, Tryz.ntmps212
 go_wp2
 go_ret
 exact ⟨rfl, (Below.refl _ _).alloc (by simp) _⟩
theorem kind_choice (x y : Value) (w : World) : Calls Tryz.prog 216 #[.agg #[x, y]] w fun e w' => e = .returned (.string strC) ∧ Below w.heap.size w w' := by
 go_enter Tryz.func216, Tryz.ntmps216
 go_wp2
 go_ret
 exact ⟨rfl, (Below.refl _ _).alloc (by simp) _⟩
def joinS (hd : List UInt8) (ks : List (List UInt8)) : List UInt8 := hd ++ ks.flatMap (fun k => 32 :: k)
theorem joinS_inj : ∀ (ks ks' : List (List UInt8)) (hd hd' : List UInt8), (∀ b ∈ hd, b ≠ 32) → (∀ b ∈ hd', b ≠ 32) → (∀ k ∈ ks, ∀ b ∈ k, b ≠ 32) → (∀ k ∈ ks', ∀ b ∈ k, b ≠ 32) →
    joinS hd ks = joinS hd' ks' → hd = hd' ∧ ks = ks' := by
 have key : ∀ (hd hd' : List UInt8) (r r' : List UInt8), (∀ b ∈ hd, b ≠ 32) → (∀ b ∈ hd', b ≠ 32) → (r = [] ∨ ∃ t, r = 32 :: t) → (r' = [] ∨ ∃ t, r' = 32 :: t) → hd ++ r = hd' ++ r' → hd = hd' ∧ r = r' := by
  intro hd
  induction hd with
  | nil =>
   intro hd' r r' _ h' hr hr' e
   cases hd' with
   | nil => exact ⟨rfl, by simpa using e⟩
   | cons b hd' =>
    exfalso
    rcases hr with rfl | ⟨t, rfl⟩
    ·simp at e
    ·simp at e; exact h' b (by simp) e.1.symm
  | cons a hd ih =>
   intro hd' r r' h h' hr hr' e
   cases hd' with
   | nil =>
    exfalso
    rcases hr' with rfl | ⟨t, rfl⟩
    ·simp at e
    ·simp at e; exact h a (by simp) e.1
   | cons b hd' =>
    simp only [List.cons_append, List.cons.injEq] at e
    have := ih hd' r r' (fun x hx => h x (by simp [hx])) (fun x hx => h' x (by simp [hx])) hr hr' e.2
    exact ⟨by rw [e.1, this.1], this.2⟩
 have tail : ∀ ks : List (List UInt8), ks.flatMap (fun k => 32 :: k) = [] ∨ ∃ t, ks.flatMap (fun k => (32 : UInt8) :: k) = 32 :: t := by
  intro ks; cases ks with
  | nil => exact Or.inl rfl
  | cons k ks => exact Or.inr ⟨_, rfl⟩
 intro ks
 induction ks with
 | nil =>
  intro ks' hd hd' h h' _ _ e
  have := key hd hd' _ _ h h' (tail []) (tail ks') e
  refine ⟨this.1, ?_⟩
  cases ks' with
  | nil => rfl
  | cons k ks' => have := this.2; simp at this
 | cons k ks ih =>
  intro ks' hd hd' h h' hk hk' e
  have := key hd hd' _ _ h h' (tail (k :: ks)) (tail ks') e
  refine ⟨this.1, ?_⟩
  cases ks' with
  | nil => have := this.2; simp at this
  | cons k' ks' =>
   have e2 := this.2
   simp only [List.flatMap_cons, List.cons_append, List.cons.injEq, true_and] at e2
   have := ih ks' k k' (hk k (by simp)) (hk' k' (by simp)) (fun x hx => hk x (by simp [hx])) (fun x hx => hk' x (by simp [hx])) e2
   rw [this.1, this.2]
def tya (hd : List UInt8) (kids : List Ty) : Option Ty :=
 match kids with
 | [a, b] => if hd = [42] ∧ a.isVal = true ∧ b.isVal = true then some (.pair a b) else if hd = [62] ∧ a.isVal = true ∧ b.isVal = false then some (.fn a b) else if hd = [38] ∧ a.isVal = false ∧ b.isVal = false then some (.choice a b) else none
 | [a] => if hd = [117] ∧ a.isVal = false then some (.thunk a) else if hd = [102] ∧ a.isVal = true then some (.ret a) else none
 | _ => none
def lV : List UInt8 := [118, 97, 108, 117, 101]
def lC : List UInt8 := [99, 111, 109, 112, 117, 116, 97, 116, 105, 111, 110]
theorem stv : strV.toList = lV := by rw [Go.ByteArray.toList_eq]; rfl
theorem stc : strC.toList = lC := by rw [Go.ByteArray.toList_eq]; rfl
def Ty.kindL (t : Ty) : List UInt8 := if t.isVal then lV else lC
theorem kindL_no (t : Ty) : ∀ b ∈ t.kindL, b ≠ 32 := by
 unfold Ty.kindL; split <;> decide
theorem kindL_V {t : Ty} : t.kindL = lV ↔ t.isVal = true := by
 unfold Ty.kindL; cases h : t.isVal <;> simp [lV, lC]
theorem kindL_C {t : Ty} : t.kindL = lC ↔ t.isVal = false := by
 unfold Ty.kindL; cases h : t.isVal <;> simp [lV, lC]
theorem joinS_eq {hd : List UInt8} {kids : List Ty} {h' : List UInt8} {ks' : List (List UInt8)} (h : ∀ b ∈ hd, b ≠ 32) (hh' : ∀ b ∈ h', b ≠ 32) (hk' : ∀ k ∈ ks', ∀ b ∈ k, b ≠ 32) :
    joinS hd (kids.map Ty.kindL) = joinS h' ks' ↔ hd = h' ∧ kids.map Ty.kindL = ks' := by
 refine ⟨fun e => joinS_inj _ _ _ _ h hh' (fun k hk => ?_) hk' e, fun e => by rw [e.1, e.2]⟩
 obtain ⟨t, _, rfl⟩ := List.mem_map.1 hk
 exact kindL_no t
theorem map_two {kids : List Ty} {x y : List UInt8} (h : kids.map Ty.kindL = [x, y]) : ∃ a b, kids = [a, b] ∧ a.kindL = x ∧ b.kindL = y := by
 match kids, h with
 | [a, b], h => simp at h; exact ⟨a, b, rfl, h.1, h.2⟩
theorem map_one {kids : List Ty} {x : List UInt8} (h : kids.map Ty.kindL = [x]) : ∃ a, kids = [a] ∧ a.kindL = x := by
 match kids, h with
 | [a], h => simp at h; exact ⟨a, rfl, h⟩
theorem no1 {x : List UInt8} (h : ∀ b ∈ x, b ≠ 32) : ∀ k ∈ [x], ∀ b ∈ k, b ≠ 32 := by
 intro k hk; rw [List.mem_singleton] at hk; subst hk; exact h
theorem no2 {x y : List UInt8} (h : ∀ b ∈ x, b ≠ 32) (h' : ∀ b ∈ y, b ≠ 32) : ∀ k ∈ [x, y], ∀ b ∈ k, b ≠ 32 := by
 intro k hk
 rcases List.mem_cons.1 hk with rfl | hk
 ·exact h
 ·rw [List.mem_singleton] at hk; subst hk; exact h'
theorem parts_cases (hd : List UInt8) (kids : List Ty) (h : ∀ b ∈ hd, b ≠ 32) :
    (∃ a b, kids = [a, b] ∧ joinS hd (kids.map Ty.kindL) = joinS [42] [lV, lV] ∧ tya hd kids = some (.pair a b)) ∨
    (∃ a, kids = [a] ∧ joinS hd (kids.map Ty.kindL) = joinS [117] [lC] ∧ tya hd kids = some (.thunk a)) ∨
    (∃ a, kids = [a] ∧ joinS hd (kids.map Ty.kindL) = joinS [102] [lV] ∧ tya hd kids = some (.ret a)) ∨
    (∃ a b, kids = [a, b] ∧ joinS hd (kids.map Ty.kindL) = joinS [62] [lV, lC] ∧ tya hd kids = some (.fn a b)) ∨
    (∃ a b, kids = [a, b] ∧ joinS hd (kids.map Ty.kindL) = joinS [38] [lC, lC] ∧ tya hd kids = some (.choice a b)) ∨
    (joinS hd (kids.map Ty.kindL) ≠ joinS [42] [lV, lV] ∧ joinS hd (kids.map Ty.kindL) ≠ joinS [117] [lC] ∧ joinS hd (kids.map Ty.kindL) ≠ joinS [102] [lV] ∧ joinS hd (kids.map Ty.kindL) ≠ joinS [62] [lV, lC] ∧
      joinS hd (kids.map Ty.kindL) ≠ joinS [38] [lC, lC] ∧ tya hd kids = none) := by
 have nV : ∀ b ∈ lV, b ≠ 32 := by decide
 have nC : ∀ b ∈ lC, b ≠ 32 := by decide
 by_cases c1 : joinS hd (kids.map Ty.kindL) = joinS [42] [lV, lV]
 ·obtain ⟨e1, e2⟩ := (joinS_eq h (by decide) (no2 nV nV)).1 c1
  obtain ⟨a, b, rfl, ha, hb⟩ := map_two e2
  exact Or.inl ⟨a, b, rfl, c1, by simp [tya, e1, kindL_V.1 ha, kindL_V.1 hb]⟩
 by_cases c2 : joinS hd (kids.map Ty.kindL) = joinS [117] [lC]
 ·obtain ⟨e1, e2⟩ := (joinS_eq h (by decide) (no1 nC)).1 c2
  obtain ⟨a, rfl, ha⟩ := map_one e2
  exact Or.inr (Or.inl ⟨a, rfl, c2, by simp [tya, e1, kindL_C.1 ha]⟩)
 by_cases c3 : joinS hd (kids.map Ty.kindL) = joinS [102] [lV]
 ·obtain ⟨e1, e2⟩ := (joinS_eq h (by decide) (no1 nV)).1 c3
  obtain ⟨a, rfl, ha⟩ := map_one e2
  exact Or.inr (Or.inr (Or.inl ⟨a, rfl, c3, by simp [tya, e1, kindL_V.1 ha]⟩))
 by_cases c4 : joinS hd (kids.map Ty.kindL) = joinS [62] [lV, lC]
 ·obtain ⟨e1, e2⟩ := (joinS_eq h (by decide) (no2 nV nC)).1 c4
  obtain ⟨a, b, rfl, ha, hb⟩ := map_two e2
  exact Or.inr (Or.inr (Or.inr (Or.inl ⟨a, b, rfl, c4, by simp [tya, e1, kindL_V.1 ha, kindL_C.1 hb]⟩)))
 by_cases c5 : joinS hd (kids.map Ty.kindL) = joinS [38] [lC, lC]
 ·obtain ⟨e1, e2⟩ := (joinS_eq h (by decide) (no2 nC nC)).1 c5
  obtain ⟨a, b, rfl, ha, hb⟩ := map_two e2
  exact Or.inr (Or.inr (Or.inr (Or.inr (Or.inl ⟨a, b, rfl, c5, by simp [tya, e1, kindL_C.1 ha, kindL_C.1 hb]⟩))))
 refine Or.inr (Or.inr (Or.inr (Or.inr (Or.inr ⟨c1, c2, c3, c4, c5, ?_⟩))))
 unfold tya
 split
 ·rename_i a b
  rw [if_neg, if_neg, if_neg]
  ·rintro ⟨rfl, ha, hb⟩; exact c5 (by simp [kindL_C.2 ha, kindL_C.2 hb])
  ·rintro ⟨rfl, ha, hb⟩; exact c4 (by simp [kindL_V.2 ha, kindL_C.2 hb])
  ·rintro ⟨rfl, ha, hb⟩; exact c1 (by simp [kindL_V.2 ha, kindL_V.2 hb])
 ·rename_i a
  rw [if_neg, if_neg]
  ·rintro ⟨rfl, ha⟩; exact c3 (by simp [kindL_V.2 ha])
  ·rintro ⟨rfl, ha⟩; exact c2 (by simp [kindL_C.2 ha])
 ·rfl
def TyPost (o : Option Ty) (w : World) (e : Ending) (w' : World) : Prop :=
 e = .returned (match o with | some t => .tuple #[t.val, .bool true] | none => .tuple #[.nilIface, .bool false]) ∧ Below w.heap.size w w'
theorem kk1 : ([42, 32, 118, 97, 108, 117, 101, 32, 118, 97, 108, 117, 101] : List UInt8) = joinS [42] [lV, lV] := rfl
theorem kk2 : ([117, 32, 99, 111, 109, 112, 117, 116, 97, 116, 105, 111, 110] : List UInt8) = joinS [117] [lC] := rfl
theorem kk3 : ([102, 32, 118, 97, 108, 117, 101] : List UInt8) = joinS [102] [lV] := rfl
theorem kk4 : ([62, 32, 118, 97, 108, 117, 101, 32, 99, 111, 109, 112, 117, 116, 97, 116, 105, 111, 110] : List UInt8) = joinS [62] [lV, lC] := rfl
theorem kk5 : ([38, 32, 99, 111, 109, 112, 117, 116, 97, 116, 105, 111, 110, 32, 99, 111, 109, 112, 117, 116, 97, 116, 105, 111, 110] : List UInt8) = joinS [38] [lC, lC] := rfl
theorem form_size {f x : ByteArray} {i : Nat} (h : f.size ≤ 12000 + 12 * i) (hx : x.size ≤ 11) : (f ++ (({ data := #[32] } : ByteArray) ++ x)).size ≤ 12000 + 12 * (i + 1) := by
 rw [ByteArray.size_append, ByteArray.size_append]
 have : ({ data := #[32] } : ByteArray).size = 1 := rfl
 omega
theorem kindS_toList (t : Ty) : t.kindS.toList = t.kindL := by
 unfold Ty.kindS Ty.kindL; split
 ·exact stv
 ·exact stc
theorem form_round {hd : List UInt8} {kids : List Ty} {f x : ByteArray} {i : Nat} {k : Ty} (h : f.toList = joinS hd ((kids.map Ty.kindL).take i)) (hk : kids[i]? = some k) (hx : k.kindS = x) :
    (f ++ (({ data := #[32] } : ByteArray) ++ x)).toList = joinS hd ((kids.map Ty.kindL).take (i + 1)) := by
 rw [app, app, h, space_toList, ← hx, kindS_toList, List.take_add_one, List.getElem?_map, hk]
 simp [joinS]
theorem typeOfParts_any (hd : ByteArray) (kids : List Ty) (p : Option Addr) (n cap : Nat) (w : World) (hn : Hid (kids.length = n)) (hv : Vals w p (kids.map Ty.val)) (hsz : hd.size ≤ 12000) (hnb : n ≤ 12000) (hsp : ∀ b ∈ hd.toList, b ≠ 32) :
    Calls Tryz.prog 143 #[.string hd, .slice p n cap] w (TyPost (tya hd.toList kids) w) := by
 have HV := hid hv
 have HSP := hid hsp
 have hzV : strV.size ≤ 11 := by decide
 have hzC : strC.size ≤ 11 := by decide
 clear hv hsp
 go_enter Tryz.func143, Tryz.ntmps143
 go_wp2_with fail
 go_loopw [6, 12] (fun v u wr => ∃ (i : Nat) (f : ByteArray), i ≤ n ∧ u = .int .i64 (i : Int) ∧ v = .string f ∧ f.size ≤ 12000 + 12 * i ∧ Hid (f.toList = joinS hd.toList ((kids.map Ty.kindL).take i)) ∧ Below w.heap.size w wr) (fun _ u _ => n - (intOf u).toNat)
 case atStart => exact ⟨0, hd, Nat.zero_le _, rfl, rfl, by omega, hid (by simp [joinS]), Below.refl _ _⟩
 case round =>
  obtain ⟨i, f, hi, rfl, rfl, hfs, hf, hbel⟩ := hrel
  by_cases hlt : i < n
  ·obtain ⟨k, hk⟩ : ∃ k, kids[i]? = some k := ⟨_, List.getElem?_eq_getElem (by rw [hn.out]; exact hlt)⟩
   obtain ⟨b, o, rfl, hc⟩ := HV.out i k.val (by simp [hk])
   have hc' := (hbel.cell (p := ⟨b, o + i, none⟩) (World.block_lt_of_cell? w _ hc)).trans hc
   have HK := hid hk
   clear hk hc
   cases k with
   | bit =>
    have hc2 : wr.cell? ⟨b, o + i, none⟩ = some (.iface 176 (.agg #[])) := hc'
    have mk := m_kind_bit 
    clear hc'
    go_wp2_with (go_at_call 220; refine (kind_bit _).mono ?_; rintro e w1 ⟨rfl, hb1⟩)
    go_roundw
    case rel => exact ⟨i + 1, f ++ (({ data := #[32] } : ByteArray) ++ strV), by omega, by go_num, rfl, form_size hfs hzV, hid (form_round hf.out HK.out (x := strV) rfl), hbel.trans (hb1.mono hbel.size)⟩
    case measure => simp [intOf]; omega
   | pair x y =>
    have hc2 : wr.cell? ⟨b, o + i, none⟩ = some (.iface 123 (.agg #[x.val, y.val])) := hc'
    have mk := m_kind_pair x.val y.val
    clear hc'
    go_wp2_with (go_at_call 200; refine (kind_pair _ _ _).mono ?_; rintro e w1 ⟨rfl, hb1⟩)
    go_roundw
    case rel => exact ⟨i + 1, f ++ (({ data := #[32] } : ByteArray) ++ strV), by omega, by go_num, rfl, form_size hfs hzV, hid (form_round hf.out HK.out (x := strV) rfl), hbel.trans (hb1.mono hbel.size)⟩
    case measure => simp [intOf]; omega
   | thunk x =>
    have hc2 : wr.cell? ⟨b, o + i, none⟩ = some (.iface 125 (.agg #[x.val])) := hc'
    have mk := m_kind_thunk x.val
    clear hc'
    go_wp2_with (go_at_call 204; refine (kind_thunk _ _).mono ?_; rintro e w1 ⟨rfl, hb1⟩)
    go_roundw
    case rel => exact ⟨i + 1, f ++ (({ data := #[32] } : ByteArray) ++ strV), by omega, by go_num, rfl, form_size hfs hzV, hid (form_round hf.out HK.out (x := strV) rfl), hbel.trans (hb1.mono hbel.size)⟩
    case measure => simp [intOf]; omega
   | ret x =>
    have hc2 : wr.cell? ⟨b, o + i, none⟩ = some (.iface 127 (.agg #[x.val])) := hc'
    have mk := m_kind_ret x.val
    clear hc'
    go_wp2_with (go_at_call 208; refine (kind_ret _ _).mono ?_; rintro e w1 ⟨rfl, hb1⟩)
    go_roundw
    case rel => exact ⟨i + 1, f ++ (({ data := #[32] } : ByteArray) ++ strC), by omega, by go_num, rfl, form_size hfs hzC, hid (form_round hf.out HK.out (x := strC) rfl), hbel.trans (hb1.mono hbel.size)⟩
    case measure => simp [intOf]; omega
   | fn x y =>
    have hc2 : wr.cell? ⟨b, o + i, none⟩ = some (.iface 129 (.agg #[x.val, y.val])) := hc'
    have mk := m_kind_fn x.val y.val
    clear hc'
    go_wp2_with (go_at_call 212; refine (kind_fn _ _ _).mono ?_; rintro e w1 ⟨rfl, hb1⟩)
    go_roundw
    case rel => exact ⟨i + 1, f ++ (({ data := #[32] } : ByteArray) ++ strC), by omega, by go_num, rfl, form_size hfs hzC, hid (form_round hf.out HK.out (x := strC) rfl), hbel.trans (hb1.mono hbel.size)⟩
    case measure => simp [intOf]; omega
   | choice x y =>
    have hc2 : wr.cell? ⟨b, o + i, none⟩ = some (.iface 130 (.agg #[x.val, y.val])) := hc'
    have mk := mki x.val y.val
    clear hc'
    go_wp2_with (go_at_call 216; refine (kind_choice _ _ _).mono ?_; rintro e w1 ⟨rfl, hb1⟩)
    go_roundw
    case rel => exact ⟨i + 1, f ++ (({ data := #[32] } : ByteArray) ++ strC), by omega, by go_num, rfl, form_size hfs hzC, hid (form_round hf.out HK.out (x := strC) rfl), hbel.trans (hb1.mono hbel.size)⟩
    case measure => simp [intOf]; omega
  ·have hfl : f.toList = joinS hd.toList (kids.map Ty.kindL) := by
     rw [hf.out, List.take_of_length_le (by rw [List.length_map, hn.out]; omega)]
   have FL := hid hfl
   have hin : n ≤ i := by omega
   clear hfl hf
   rcases parts_cases hd.toList kids HSP.out with H | H | H | H | H | ⟨hN1, hN2, hN3, hN4, hN5, hT⟩
   ·obtain ⟨a1, a2, rfl, hJ, hT⟩ := H
    have t1 : (f.toList == [42, 32, 118, 97, 108, 117, 101, 32, 118, 97, 108, 117, 101]) = true := by rw [FL.out, hJ, kk1]; rfl
    obtain ⟨b, o, rfl, hc0⟩ := HV.out 0 a1.val rfl
    obtain ⟨b', o', hbo, hc1⟩ := HV.out 1 a2.val rfl
    obtain ⟨rfl, rfl⟩ : b' = b ∧ o' = o := by simp at hbo; exact ⟨hbo.1.symm, hbo.2.symm⟩
    have k0 : wr.cell? ⟨b', o', none⟩ = some a1.val := (hbel.cell (p := ⟨b', o', none⟩) (World.block_lt_of_cell? w _ hc0)).trans hc0
    have k1 : wr.cell? ⟨b', o' + 1, none⟩ = some a2.val := (hbel.cell (p := ⟨b', o' + 1, none⟩) (World.block_lt_of_cell? w _ hc1)).trans hc1
    obtain ⟨u1, v1, hv1⟩ := a1.val_iface
    obtain ⟨u2, v2, hv2⟩ := a2.val_iface
    rw [hv1] at k0
    rw [hv2] at k1
    have HV1 := hid hv1
    have HV2 := hid hv2
    obtain rfl : n = 2 := hn.out.symm
    have HT := hid hT
    clear hc0 hc1 hbo hv1 hv2 hT hJ
    go_wp2_with fail
    go_quiet (fail)
    go_wp2_with fail
    go_ret2
    exact ⟨by rw [HT.out]; simp only [Ty.val]; rw [HV1.out, HV2.out]; rfl, below_drewN hbel _⟩
   ·obtain ⟨a1, rfl, hJ, hT⟩ := H
    have t1 : (f.toList == [42, 32, 118, 97, 108, 117, 101, 32, 118, 97, 108, 117, 101]) = false := by rw [FL.out, hJ, kk1]; rfl
    have t2 : (f.toList == [117, 32, 99, 111, 109, 112, 117, 116, 97, 116, 105, 111, 110]) = true := by rw [FL.out, hJ, kk2]; rfl
    obtain ⟨b, o, rfl, hc0⟩ := HV.out 0 a1.val rfl
    have k0 : wr.cell? ⟨b, o, none⟩ = some a1.val := (hbel.cell (p := ⟨b, o, none⟩) (World.block_lt_of_cell? w _ hc0)).trans hc0
    obtain ⟨u1, v1, hv1⟩ := a1.val_iface
    rw [hv1] at k0
    have HV1 := hid hv1
    obtain rfl : n = 1 := hn.out.symm
    have HT := hid hT
    clear hc0 hv1 hT hJ
    go_wp2_with fail
    go_ret2
    exact ⟨by rw [HT.out]; simp only [Ty.val]; rw [HV1.out]; rfl, hbel⟩
   ·obtain ⟨a1, rfl, hJ, hT⟩ := H
    have t1 : (f.toList == [42, 32, 118, 97, 108, 117, 101, 32, 118, 97, 108, 117, 101]) = false := by rw [FL.out, hJ, kk1]; rfl
    have t2 : (f.toList == [117, 32, 99, 111, 109, 112, 117, 116, 97, 116, 105, 111, 110]) = false := by rw [FL.out, hJ, kk2]; rfl
    have t3 : (f.toList == [102, 32, 118, 97, 108, 117, 101]) = true := by rw [FL.out, hJ, kk3]; rfl
    obtain ⟨b, o, rfl, hc0⟩ := HV.out 0 a1.val rfl
    have k0 : wr.cell? ⟨b, o, none⟩ = some a1.val := (hbel.cell (p := ⟨b, o, none⟩) (World.block_lt_of_cell? w _ hc0)).trans hc0
    obtain ⟨u1, v1, hv1⟩ := a1.val_iface
    rw [hv1] at k0
    have HV1 := hid hv1
    obtain rfl : n = 1 := hn.out.symm
    have HT := hid hT
    clear hc0 hv1 hT hJ
    go_wp2_with fail
    go_ret2
    exact ⟨by rw [HT.out]; simp only [Ty.val]; rw [HV1.out]; rfl, hbel⟩
   ·obtain ⟨a1, a2, rfl, hJ, hT⟩ := H
    have t1 : (f.toList == [42, 32, 118, 97, 108, 117, 101, 32, 118, 97, 108, 117, 101]) = false := by rw [FL.out, hJ, kk1]; rfl
    have t2 : (f.toList == [117, 32, 99, 111, 109, 112, 117, 116, 97, 116, 105, 111, 110]) = false := by rw [FL.out, hJ, kk2]; rfl
    have t3 : (f.toList == [102, 32, 118, 97, 108, 117, 101]) = false := by rw [FL.out, hJ, kk3]; rfl
    have t4 : (f.toList == [62, 32, 118, 97, 108, 117, 101, 32, 99, 111, 109, 112, 117, 116, 97, 116, 105, 111, 110]) = true := by rw [FL.out, hJ, kk4]; rfl
    obtain ⟨b, o, rfl, hc0⟩ := HV.out 0 a1.val rfl
    obtain ⟨b', o', hbo, hc1⟩ := HV.out 1 a2.val rfl
    obtain ⟨rfl, rfl⟩ : b' = b ∧ o' = o := by simp at hbo; exact ⟨hbo.1.symm, hbo.2.symm⟩
    have k0 : wr.cell? ⟨b', o', none⟩ = some a1.val := (hbel.cell (p := ⟨b', o', none⟩) (World.block_lt_of_cell? w _ hc0)).trans hc0
    have k1 : wr.cell? ⟨b', o' + 1, none⟩ = some a2.val := (hbel.cell (p := ⟨b', o' + 1, none⟩) (World.block_lt_of_cell? w _ hc1)).trans hc1
    obtain ⟨u1, v1, hv1⟩ := a1.val_iface
    obtain ⟨u2, v2, hv2⟩ := a2.val_iface
    rw [hv1] at k0
    rw [hv2] at k1
    have HV1 := hid hv1
    have HV2 := hid hv2
    obtain rfl : n = 2 := hn.out.symm
    have HT := hid hT
    clear hc0 hc1 hbo hv1 hv2 hT hJ
    go_wp2_with fail
    go_quiet (fail)
    go_wp2_with fail
    go_ret2
    exact ⟨by rw [HT.out]; simp only [Ty.val]; rw [HV1.out, HV2.out]; rfl, below_drewN hbel _⟩
   ·obtain ⟨a1, a2, rfl, hJ, hT⟩ := H
    have t1 : (f.toList == [42, 32, 118, 97, 108, 117, 101, 32, 118, 97, 108, 117, 101]) = false := by rw [FL.out, hJ, kk1]; rfl
    have t2 : (f.toList == [117, 32, 99, 111, 109, 112, 117, 116, 97, 116, 105, 111, 110]) = false := by rw [FL.out, hJ, kk2]; rfl
    have t3 : (f.toList == [102, 32, 118, 97, 108, 117, 101]) = false := by rw [FL.out, hJ, kk3]; rfl
    have t4 : (f.toList == [62, 32, 118, 97, 108, 117, 101, 32, 99, 111, 109, 112, 117, 116, 97, 116, 105, 111, 110]) = false := by rw [FL.out, hJ, kk4]; rfl
    have t5 : (f.toList == [38, 32, 99, 111, 109, 112, 117, 116, 97, 116, 105, 111, 110, 32, 99, 111, 109, 112, 117, 116, 97, 116, 105, 111, 110]) = true := by rw [FL.out, hJ, kk5]; rfl
    obtain ⟨b, o, rfl, hc0⟩ := HV.out 0 a1.val rfl
    obtain ⟨b', o', hbo, hc1⟩ := HV.out 1 a2.val rfl
    obtain ⟨rfl, rfl⟩ : b' = b ∧ o' = o := by simp at hbo; exact ⟨hbo.1.symm, hbo.2.symm⟩
    have k0 : wr.cell? ⟨b', o', none⟩ = some a1.val := (hbel.cell (p := ⟨b', o', none⟩) (World.block_lt_of_cell? w _ hc0)).trans hc0
    have k1 : wr.cell? ⟨b', o' + 1, none⟩ = some a2.val := (hbel.cell (p := ⟨b', o' + 1, none⟩) (World.block_lt_of_cell? w _ hc1)).trans hc1
    obtain ⟨u1, v1, hv1⟩ := a1.val_iface
    obtain ⟨u2, v2, hv2⟩ := a2.val_iface
    rw [hv1] at k0
    rw [hv2] at k1
    have HV1 := hid hv1
    have HV2 := hid hv2
    obtain rfl : n = 2 := hn.out.symm
    have HT := hid hT
    clear hc0 hc1 hbo hv1 hv2 hT hJ
    go_wp2_with fail
    go_quiet (fail)
    go_wp2_with fail
    go_ret2
    exact ⟨by rw [HT.out]; simp only [Ty.val]; rw [HV1.out, HV2.out]; rfl, below_drewN hbel _⟩
   ·have t1 : (f.toList == [42, 32, 118, 97, 108, 117, 101, 32, 118, 97, 108, 117, 101]) = false := by rw [FL.out, kk1]; exact beq_eq_false_iff_ne.2 hN1
    have t2 : (f.toList == [117, 32, 99, 111, 109, 112, 117, 116, 97, 116, 105, 111, 110]) = false := by rw [FL.out, kk2]; exact beq_eq_false_iff_ne.2 hN2
    have t3 : (f.toList == [102, 32, 118, 97, 108, 117, 101]) = false := by rw [FL.out, kk3]; exact beq_eq_false_iff_ne.2 hN3
    have t4 : (f.toList == [62, 32, 118, 97, 108, 117, 101, 32, 99, 111, 109, 112, 117, 116, 97, 116, 105, 111, 110]) = false := by rw [FL.out, kk4]; exact beq_eq_false_iff_ne.2 hN4
    have t5 : (f.toList == [38, 32, 99, 111, 109, 112, 117, 116, 97, 116, 105, 111, 110, 32, 99, 111, 109, 112, 117, 116, 97, 116, 105, 111, 110]) = false := by rw [FL.out, kk5]; exact beq_eq_false_iff_ne.2 hN5
    have HT := hid hT
    clear hT hN1 hN2 hN3 hN4 hN5
    go_wp2_with fail
    go_ret2
    exact ⟨by rw [HT.out]; rfl, hbel⟩
mutual
def Tree.ty : Tree → Option Ty
 | .atom s => if s.toList = [98] then some .bit else none
 | .node [] => none
 | .node (q :: qs) => match Tree.tys qs with
  | none => none
  | some ks => tya q.text.toList ks
def Tree.tys : List Tree → Option (List Ty)
 | [] => some []
 | p :: ps => match p.ty with
  | none => none
  | some t => match Tree.tys ps with
   | none => none
   | some ts => some (t :: ts)
end
theorem tys_none : ∀ (l : List Tree) (i : Nat) (p : Tree), l[i]? = some p → p.ty = none → Tree.tys l = none := by
 intro l; induction l with
 | nil => intro i p h; simp at h
 | cons q l ih =>
  intro i p h hp
  cases i with
  | zero => simp at h; subst h; simp [Tree.tys, hp]
  | succ i =>
   have := ih i p (by simpa using h) hp
   rw [Tree.tys, this]; cases q.ty <;> rfl
theorem tys_append : ∀ (a b : List Tree) (x y : List Ty), Tree.tys a = some x → Tree.tys b = some y → Tree.tys (a ++ b) = some (x ++ y) := by
 intro a; induction a with
 | nil => intro b x y ha hb; simp [Tree.tys] at ha; subst ha; simpa using hb
 | cons q a ih =>
  intro b x y ha hb
  rw [Tree.tys] at ha
  cases hq : q.ty with
  | none => rw [hq] at ha; simp at ha
  | some t =>
   rw [hq] at ha; simp only at ha
   cases hr : Tree.tys a with
   | none => rw [hr] at ha; simp at ha
   | some ts =>
    rw [hr] at ha; simp at ha; subst ha
    simp [Tree.tys, hq, ih b ts y hr hb]
theorem tys_snoc (l : List Tree) (i : Nat) (p : Tree) (ks : List Ty) (t : Ty) (h : l[i]? = some p) (hk : Tree.tys (l.take i) = some ks) (ht : p.ty = some t) : Tree.tys (l.take (i + 1)) = some (ks ++ [t]) := by
 rw [List.take_add_one, h]
 exact tys_append _ _ _ _ hk (by simp [Tree.tys, ht])
theorem tys_length : ∀ (l : List Tree) (ks : List Ty), Tree.tys l = some ks → ks.length = l.length := by
 intro l; induction l with
 | nil => intro ks h; simp [Tree.tys] at h; subst h; rfl
 | cons q l ih =>
  intro ks h
  rw [Tree.tys] at h
  cases hq : q.ty with
  | none => rw [hq] at h; simp at h
  | some t =>
   rw [hq] at h; simp only at h
   cases hr : Tree.tys l with
   | none => rw [hr] at h; simp at h
   | some ts => rw [hr] at h; simp at h; subst h; simp [ih ts hr]
mutual
def Tree.ok : Tree → Prop
 | .atom s => s.size ≤ 12000 ∧ ∀ b ∈ s.toList, b ≠ 32
 | .node ps => Tree.oks ps
def Tree.oks : List Tree → Prop
 | [] => True
 | p :: ps => p.ok ∧ Tree.oks ps
end
theorem okp (ps : List Tree) (h : Tree.oks ps) (i : Nat) (p : Tree) (hp : ps[i]? = some p) : p.ok := by
 induction ps generalizing i with
 | nil => simp at hp
 | cons q ps ih =>
  rw [Tree.oks] at h
  cases i with
  | zero => simp at hp; subst hp; exact h.1
  | succ i => exact ih h.2 i (by simpa using hp)
theorem oks_append (a b : List Tree) (ha : Tree.oks a) (hb : Tree.oks b) : Tree.oks (a ++ b) := by
 induction a with
 | nil => simpa using hb
 | cons q a ih => rw [Tree.oks] at ha; simp only [List.cons_append, Tree.oks]; exact ⟨ha.1, ih ha.2⟩
theorem text_ok {t : Tree} (h : t.ok) : t.text.size ≤ 12000 ∧ ∀ b ∈ t.text.toList, b ≠ 32 := by
 cases t with
 | atom s => simpa only [Tree.ok, Tree.text] using h
 | node ps => refine ⟨Nat.zero_le _, ?_⟩; rw [Tree.text, emp]; simp
theorem runF_atoms (s : ByteArray) : ∀ n i j, i ≤ j → j < runF s n i → atomB (byteAt s j) = true := by
 intro n; induction n with
 | zero => intro i j h1 h2; simp [runF] at h2; omega
 | succ n ih =>
  intro i j h1 h2
  rw [runF] at h2
  split at h2
  ·rename_i hc
   by_cases hij : j = i
   ·rw [hij]; exact hc.2
   ·exact ih (i + 1) j (by omega) h2
  ·omega
theorem extract_no_space (s : ByteArray) (i : Nat) : ∀ b ∈ (s.extract i (runEnd s i)).toList, b ≠ 32 := by
 intro b hb
 rw [Go.ByteArray.toList_eq] at hb
 obtain ⟨k, hk, rfl⟩ := List.getElem_of_mem hb
 simp at hk
 have hlt : i + k < s.size := by omega
 have ha := runF_atoms s (s.size - i) i (i + k) (by omega) (by unfold runEnd at hk; omega)
 rw [bye s _ hlt] at ha
 intro e
 have hv : s[i + k].toNat = 32 := by
  have : (s.extract i (runEnd s i)).data.toList[k] = s[i + k] := by simp [ByteArray.getElem_eq_getElem_data]
  rw [← this, e]; rfl
 rw [hv] at ha
 exact absurd ha (by decide)
theorem rdL_ok (s : ByteArray) (f : Nat → Option (Tree × Nat)) (hf : ∀ i p e, f i = some (p, e) → p.ok) :
    ∀ n i acc p e, Tree.oks acc → rdL s f n i acc = some (p, e) → p.ok := by
 intro n; induction n with
 | zero => intro i acc p e _ h; simp [rdL] at h
 | succ n ih =>
  intro i acc p e ha h
  rw [rdL] at h
  cases hr : f (i + 1) with
  | none => rw [hr] at h; simp at h
  | some x =>
   obtain ⟨p1, e1⟩ := x
   have hb := hf _ _ _ hr
   have hacc : Tree.oks (acc ++ [p1]) := oks_append _ _ ha (by rw [Tree.oks]; exact ⟨hb, by rw [Tree.oks]; trivial⟩)
   rw [hr] at h; simp only at h
   split at h
   ·split at h
    ·simp only [Option.some.injEq, Prod.mk.injEq] at h
     obtain ⟨rfl, _⟩ := h
     rw [Tree.ok]; exact hacc
    ·split at h
     ·exact ih _ _ _ _ hacc h
     ·simp at h
   ·simp at h
theorem rd_ok (s : ByteArray) (hs : s.size ≤ 12000) : ∀ k i p e, rd s k i = some (p, e) → p.ok := by
 intro k; induction k with
 | zero => intro i p e h; simp [rd] at h
 | succ k ih =>
  intro i p e h
  rw [rd] at h
  split at h
  ·split at h
   ·exact rdL_ok s _ ih _ _ _ _ _ (by rw [Tree.oks]; trivial) h
   ·split at h
    ·simp at h
    ·simp only [Option.some.injEq, Prod.mk.injEq] at h
     obtain ⟨rfl, _⟩ := h
     rw [Tree.ok]
     exact ⟨by have := runEnd_le s i (by omega); simp [ByteArray.size_extract]; omega, extract_no_space s i⟩
  ·simp at h
theorem parse_ok {s : ByteArray} {t : Tree} (h : parse s = some t) : t.ok := by
 unfold parse at h
 split at h
 ·rename_i hs
  cases hr : rd s 101 0 with
  | none => rw [hr] at h; simp at h
  | some x =>
   obtain ⟨p, e⟩ := x
   rw [hr] at h; simp only at h
   split at h
   ·simp at h; subst h; exact rd_ok s hs _ _ _ _ hr
   ·simp at h
 ·simp at h
theorem Tryz.infoNode : (Tryz.prog.info? 54).map (fun i => (i.zero, i.size, i.bytes)) = some (some .nilIface, 1, 16) := by kernel_rfl
theorem TyPost.none {w w' : World} {e : Ending} (h : TyPost none w e w') : e = .returned (.tuple #[.nilIface, .bool false]) ∧ Below w.heap.size w w' := h
theorem TyPost.some {w w' : World} {e : Ending} {t : Ty} (h : TyPost (some t) w e w') : e = .returned (.tuple #[t.val, .bool true]) ∧ Below w.heap.size w w' := h
theorem typeOfPhrase_any {w0 : World} {S : Nat → Prop} {t : Tree} {h : Hd} (ht : TIn w0 S t h) : t.wt ≤ 12000 → t.ok → ∀ w, Kept w0 w → w0.heap.size ≤ w.heap.size →
    Calls Tryz.prog 123 #[.agg #[.string h.a, .slice h.p h.l h.c]] w (TyPost t.ty w) := by
 induction ht with
 | atom s hne hm =>
  intro _ _ w _ _
  by_cases hb : s.toList = [98]
  ·have h1 : (s.toList == [98]) = true := by simp [hb]
   have HB := hid hb
   clear hb
   go_enter Tryz.func123, Tryz.ntmps123
   go_wp2
   go_ret2
   exact ⟨by rw [Tree.ty, if_pos HB.out]; rfl, (Below.refl _ _).alloc (by simp) _⟩
  ·have h1 : (s.toList == [98]) = false := by simpa using hb
   have HB := hid hb
   clear hb
   go_enter Tryz.func123, Tryz.ntmps123
   go_wp2
   go_ret2
   exact ⟨by rw [Tree.ty, if_neg HB.out]; rfl, (Below.refl _ _).alloc (by simp) _⟩
 | node ps b cap A hp hl hc hS hA hB hps ih =>
  intro hwt hok w hk hw
  obtain ⟨q, qs, rfl⟩ : ∃ q qs, ps = q :: qs := by cases ps with | nil => simp at hp | cons q qs => exact ⟨q, qs, rfl⟩
  have hlen := wtl (q :: qs)
  rw [Tree.wt] at hwt
  have hq := (hps 0 q rfl).text
  obtain ⟨n, hn⟩ : ∃ n, n = qs.length := ⟨_, rfl⟩
  have hlq : (q :: qs).length = n + 1 := by rw [hn]; rfl
  rw [Tree.ok] at hok
  have hqt := text_ok (okp _ hok 0 q rfl)
  rw [hlq] at hp hl hA hB hlen ⊢
  have c0 : w.cell? ⟨b, 0, none⟩ = some (.string (A 0).a) := by have := hk.cell (hA 0 hp); simpa using this
  have HQ := hid hq
  have HQT := hid hqt
  have HN := hid hn
  have HIH := hid ih
  have HA := hid hA
  have HB := hid hB
  have HK := hid hk
  have HOK := hid hok
  have HWT := hid hwt
  clear hn hq hqt ih hA hB hk hok hps hlq
  have hn2 : n + 1 ≤ 12000 := by omega
  have he : (ByteArray.empty.toList == [98]) = false := by rw [emp]; rfl
  have d0 : ((n : Int) + 1 == 0) = false := beq_eq_false_iff_ne.2 (by omega)
  have hmc : cap ≤ 9223372036854775807 := by unfold maxLen at hc; omega
  by_cases hcap : cap = 1
  ·obtain rfl : n = 0 := by omega
   subst hcap
   go_enter Tryz.func123, Tryz.ntmps123
   go_wp2_with fail
   refine wp_loop_rounds 1 ?_
   rw [rounds_succ]
   have c1 : ∀ o, (w.alloc o).cell? ⟨b, 0, none⟩ = some (.string (A 0).a) := fun o => (World.cell?_of_block (w := w) (heap_alloc_old w o (World.block_lt_of_cell? w _ c0))).trans c0
   have HC := hid (fun W => typeOfParts_any (A 0).a [] none 0 0 W rfl (fun i v h => by simp at h) (by rw [HQ.out]; exact HQT.out.1) (by omega) (by rw [HQ.out]; exact HQT.out.2))
   go_wp2_with (go_at_call 143; refine (HC.out _).mono ?_; rintro e w1 hp; obtain ⟨rfl, hb1⟩ := hp.none; clear hp)
   go_ret2
   refine ⟨?_, ((Below.refl _ _).alloc (by simp) _).trans (hb1.mono (by simp))⟩
   have : qs = [] := List.eq_nil_of_length_eq_zero HN.out.symm
   rw [this, Tree.ty, Tree.tys]; rfl
  ·go_enter Tryz.func123, Tryz.ntmps123
   go_wp2_with fail
   go_loopw [4, 22] (fun v u wr => ∃ (i kc : Nat) (kp : Option Addr) (ks : List Ty), i ≤ n ∧ u = .int .i64 (i : Int) ∧ v = .slice kp i kc ∧ Hid (Tree.tys (qs.take i) = some ks) ∧
       wr.ownsRow (w.heap.size + 1) 54 1 (.slice kp i kc) i (ks.map Ty.val) ∧ Below (w.heap.size + 1) (w.alloc (.cells #[.string ByteArray.empty, .slice (some ⟨b, 0, none⟩) (n + 1) cap] 118)) wr) (fun _ u _ => n - (intOf u).toNat)
   case atStart => exact ⟨0, 0, none, [], Nat.zero_le _, rfl, rfl, rfl, World.ownsRow_nil _ _ _ _, Below.refl _ _⟩
   case round =>
    obtain ⟨i, kc, kp, ks, hi, rfl, rfl, htys, hown, hbel⟩ := hrel
    have hz := hbel.size
    simp at hz
    have kb : Kept w wr := ((Kept.refl w).alloc (Nat.le_refl _) _).below hbel (by omega)
    have c1 := cel (blo (hea w (.cells #[.string ByteArray.empty, .slice (some ⟨b, 0, none⟩) (n + 1) cap] 118) w.heap.size rfl) hbel (by omega))
    have HOWN := hid hown
    clear hown
    by_cases hlt : i < n
    ·obtain ⟨p, hp⟩ : ∃ p, qs[i]? = some p := ⟨_, List.getElem?_eq_getElem (by rw [← HN.out]; exact hlt)⟩
     have kw : Kept w0 wr := HK.out.trans kb hw
     have ca : wr.cell? ⟨b, 2 + i * 2, none⟩ = some (.string (A (i + 1)).a) := by
      have := kw.cell (HA.out (i + 1) (by omega)); rwa [show (i + 1) * 2 = 2 + i * 2 by omega] at this
     have cb : wr.cell? ⟨b, 2 + i * 2 + 1, none⟩ = some (.slice (A (i + 1)).p (A (i + 1)).l (A (i + 1)).c) := by
      have := kw.cell (HB.out (i + 1) (by omega)); rwa [show (i + 1) * 2 = 2 + i * 2 by omega] at this
     have HC := hid (fun W hk hs => HIH.out (i + 1) p (by simpa using hp) (by have := wtp (q :: qs) (i + 1) p (by simpa using hp); have := HWT.out; omega) (okp _ HOK.out (i + 1) p (by simpa using hp)) W hk hs)
     have HKW := hid (fun o => kw.alloc (by omega) o)
     have HP := hid hp
     clear hp kb kw
     cases hty : p.ty with
     | none =>
      have HT := hid hty
      clear hty
      go_wp2_with (go_at_call 123; refine (HC.out _ (HKW.out _) (by simp; omega)).mono ?_; rintro e w1 hp; rw [HT.out] at hp; obtain ⟨rfl, hb1⟩ := hp.none; clear hp)
      go_ret2
      refine ⟨?_, ((Below.refl _ _).alloc (by simp) _).trans ((hbel.mono (by omega)).trans (((Below.refl _ _).alloc (by omega) _).trans (hb1.mono (by simp; omega))))⟩
      rw [Tree.ty, tys_none qs i p HP.out HT.out]; rfl
     | some tp =>
      have HT := hid hty
      clear hty
      obtain ⟨i0, hi0, hz0, hz1, hz2⟩ := info_parts Tryz.infoNode
      obtain ⟨ui, vi, hvi⟩ := tp.val_iface
      have HV := hid hvi
      clear hvi
      go_wp2_with (first | (at_builtin; refine wpl _ rfl (.tmp 33) (.tmp 35) 93 rfl (w.heap.size + 1) 54 i0 .nilIface 1 16 Tryz.underlying93 hi0 hz0 hz1 hz2 rfl (by decide) (.slice kp i kc) i _ rfl ((ows ((HOWN.out).alloc _) hb1).alloc _) ⟨w1.heap.size, 0, none⟩ 1 1 [.iface ui vi] rfl rfl (cen _ _ _ _ rfl) (by intro u hu; simp at hu; subst hu; rfl) (by decide) (by unfold maxLen; omega) (by omega) (by have := hb1.size; simp at this ⊢; omega) ?_; intro v' w2 hown2 hg2 hw2 hv2; obtain ⟨g2, kc2, rfl⟩ := hv2; have HG := hid hg2; have HO := hid hown2; clear hg2 hown2 hw2) | (go_at_call 123; refine (HC.out _ (HKW.out _) (by simp; omega)).mono ?_; rintro e w1 hp; rw [HT.out] at hp; obtain ⟨he1, hb1⟩ := hp.some; rw [HV.out] at he1; subst he1; clear hp))
      go_roundw
      case rel =>
       refine ⟨i + 1, kc2, some ⟨g2, 0, none⟩, ks ++ [tp], by omega, by go_num, rfl, tys_snoc qs i p ks tp HP.out htys.out HT.out, ?_, ?_⟩
       ·rw [List.map_append]; simp only [List.map_cons, List.map_nil]; rw [HV.out]; exact HO.out
       ·have hlo := HOWN.out.lt
        have s1 := hb1.size
        simp at s1
        exact (((hbel.alloc (by omega) _).trans (hb1.mono (by simp; omega))).alloc (by omega) _).grown HG.out (by simp; omega) (fun k e => (hlo k e).1)
      case measure => simp [intOf]; omega
    ·have hin : i = n := by omega
     have HI := hid hin
     have HVL := hid (vals_any HOWN.out)
     have hks : Tree.tys qs = some ks := by
      have := htys.out; rwa [List.take_of_length_le (by rw [HN.out] at hin; omega)] at this
     have HKS := hid hks
     have hkl : ks.length = i := by rw [tys_length qs ks hks, ← HN.out, hin]
     have c2 : wr.cell? ⟨b, 0, none⟩ = some (.string (A 0).a) := kb.cell c0
     have HC := hid (fun W (hk : Kept wr W) => typeOfParts_any (A 0).a ks kp i kc W hkl (HVL.out.kept hk) (by rw [HQ.out]; exact HQT.out.1) (by omega) (by rw [HQ.out]; exact HQT.out.2))
     clear hin hks hkl kb
     have hq : (Tree.node (q :: qs)).ty = tya (A 0).a.toList ks := by rw [Tree.ty, HKS.out, HQ.out]
     have HQY := hid hq
     clear hq
     cases hT : tya (A 0).a.toList ks with
     | none =>
      have HT := hid hT
      clear hT
      go_wp2_with (go_at_call 143; refine (HC.out _ (Kept.refl _)).mono ?_; rintro e w1 hp; rw [HT.out] at hp; obtain ⟨rfl, hb1⟩ := hp.none; clear hp)
      go_ret2
      rw [HQY.out, HT.out]
      exact ⟨rfl, ((Below.refl _ _).alloc (by simp) _).trans ((hbel.mono (by omega)).trans (hb1.mono (by omega)))⟩
     | some tp =>
      have HT := hid hT
      clear hT
      go_wp2_with (go_at_call 143; refine (HC.out _ (Kept.refl _)).mono ?_; rintro e w1 hp; rw [HT.out] at hp; obtain ⟨rfl, hb1⟩ := hp.some; clear hp)
      go_ret2
      rw [HQY.out, HT.out]
      exact ⟨rfl, ((Below.refl _ _).alloc (by simp) _).trans ((hbel.mono (by omega)).trans (hb1.mono (by omega)))⟩
def tyLim (t : Tree) : Option Ty := if t.size ≤ 12 then t.ty else none
theorem lii {w0 : World} {S : Nat → Prop} {t : Tree} {h : Hd} (ht : TIn w0 S t h) (hwt : t.wt ≤ 12000) (hok : t.ok) (w : World) (hk : Kept w0 w) (hw : w0.heap.size ≤ w.heap.size) :
    Calls Tryz.prog 86 #[.agg #[.string h.a, .slice h.p h.l h.c]] w (TyPost (tyLim t) w) := by
 have hsz := siz t
 have HD := hid (fun W hk hs => atoms_any ht (by omega) W hk hs)
 have HE := hid (fun W hk hs => typeOfPhrase_any ht hwt hok W hk hs)
 have HK := hid hk
 clear ht hok hk
 obtain ⟨pa, pp, pl, pc⟩ := h
 by_cases h12 : t.size ≤ 12
 ·have HR := hid (show tyLim t = t.ty by rw [tyLim, if_pos h12])
  cases hty : t.ty with
  | none =>
   have HT := hid hty
   clear hty
   go_enter Tryz.func86, Tryz.ntmps86
   go_wp2_with (first | (go_at_call 104; refine (HD.out _ (HK.out.alloc hw _) (by simp; omega)).mono ?_; rintro e w2 ⟨rfl, hb2⟩; have k2 := cel (blo (hea w (.cells #[.string pa, .slice pp pl pc] 118) _ rfl) hb2 (by simp))) | (go_at_call 123; refine (HE.out _ ((HK.out.alloc hw _).below hb2 (by simp; omega)) (by have := hb2.size; simp at this; omega)).mono ?_; rintro e w3 hp; rw [HT.out] at hp; obtain ⟨rfl, hb3⟩ := hp.none; clear hp))
   go_ret2
   rw [HR.out, HT.out]
   have s2 := hb2.size
   simp at s2
   exact ⟨rfl, ((Below.refl _ _).alloc (by omega) _).trans ((hb2.mono (by simp)).trans (hb3.mono (by omega)))⟩
  | some tp =>
   have HT := hid hty
   clear hty
   go_enter Tryz.func86, Tryz.ntmps86
   go_wp2_with (first | (go_at_call 104; refine (HD.out _ (HK.out.alloc hw _) (by simp; omega)).mono ?_; rintro e w2 ⟨rfl, hb2⟩; have k2 := cel (blo (hea w (.cells #[.string pa, .slice pp pl pc] 118) _ rfl) hb2 (by simp))) | (go_at_call 123; refine (HE.out _ ((HK.out.alloc hw _).below hb2 (by simp; omega)) (by have := hb2.size; simp at this; omega)).mono ?_; rintro e w3 hp; rw [HT.out] at hp; obtain ⟨rfl, hb3⟩ := hp.some; clear hp))
   go_ret2
   rw [HR.out, HT.out]
   have s2 := hb2.size
   simp at s2
   exact ⟨rfl, ((Below.refl _ _).alloc (by omega) _).trans ((hb2.mono (by simp)).trans (hb3.mono (by omega)))⟩
 ·have HR := hid (show tyLim t = none by rw [tyLim, if_neg h12])
  have h13 : 12 < t.size := by omega
  clear h12
  go_enter Tryz.func86, Tryz.ntmps86
  go_wp2_with (go_at_call 104; refine (HD.out _ (HK.out.alloc hw _) (by simp; omega)).mono ?_; rintro e w2 ⟨rfl, hb2⟩)
  go_ret2
  rw [HR.out]
  exact ⟨rfl, ((Below.refl _ _).alloc (by omega) _).trans (hb2.mono (by simp))⟩
def readTy (s : ByteArray) : Option Ty :=
 match parse s with
 | some t => if t.size ≤ 12 then t.ty else none
 | none => none
theorem l1IfP_bad {ks b : List ByteArray} {kind x : ByteArray} (hx : x ∈ ks) (h0 : x.toList = []) (hb : ∀ y ∈ b, y.toList ≠ []) : l1IfP ks b kind = ByteArray.empty := by
 rw [l1IfP, if_neg]
 intro e
 have : ([] : List UInt8) ∈ b.map (·.toList) := by rw [← e]; exact List.mem_map.2 ⟨x, hx, h0⟩
 obtain ⟨y, hy, hy0⟩ := List.mem_map.1 this
 exact hb y hy hy0
theorem strV_ne : strV.toList ≠ [] := by rw [stv]; decide
theorem strC_ne : strC.toList ≠ [] := by rw [stc]; decide
theorem nodeKind_bad {hd : ByteArray} {ks : List ByteArray} {x : ByteArray} (hx : x ∈ ks) (h0 : x.toList = []) : nod hd ks = ByteArray.empty := by
 have h : ∀ (b : List ByteArray) (kind : ByteArray), (∀ y ∈ b, y = strV ∨ y = strC) → l1IfP ks b kind = ByteArray.empty := fun b kind hb => l1IfP_bad hx h0 (fun y hy => by rcases hb y hy with rfl | rfl; exact strV_ne; exact strC_ne)
 unfold nod
 rw [h [strV, strV] _ (by simp), h [strC] _ (by simp), h [strV] _ (by simp), h [strV, strC] _ (by simp), h [strC, strC] _ (by simp)]
 repeat (split; rfl)
 rfl
theorem l1IfP_kinds (ks : List Ty) (b : List Ty) (kind : ByteArray) : l1IfP (ks.map Ty.kindS) (b.map Ty.kindS) kind = if ks.map Ty.isVal = b.map Ty.isVal then kind else ByteArray.empty := by
 have e : ∀ l : List Ty, (l.map Ty.kindS).map (·.toList) = l.map Ty.kindL := fun l => by rw [List.map_map]; exact List.map_congr_left fun t _ => kindS_toList t
 have inj : ∀ l l' : List Ty, l.map Ty.kindL = l'.map Ty.kindL ↔ l.map Ty.isVal = l'.map Ty.isVal := by
  intro l; induction l with
  | nil => intro l'; cases l' <;> simp
  | cons a l ih =>
   intro l'; cases l' with
   | nil => simp
   | cons c l' =>
    simp only [List.map_cons, List.cons.injEq, ih l']
    have : a.kindL = c.kindL ↔ a.isVal = c.isVal := by
     unfold Ty.kindL; cases a.isVal <;> cases c.isVal <;> simp [lV, lC]
    rw [this]
 rw [l1IfP, e, e]
 by_cases h : ks.map Ty.isVal = b.map Ty.isVal
 ·rw [if_pos ((inj _ _).2 h), if_pos h]
 ·rw [if_neg (fun x => h ((inj _ _).1 x)), if_neg h]
def kindOf : Option Ty → ByteArray
 | some t => t.kindS
 | none => ByteArray.empty
theorem nodeKind_kinds (hd : ByteArray) (ks : List Ty) : nod hd (ks.map Ty.kindS) = kindOf (tya hd.toList ks) := by
 have e1 : [strV, strV] = [Ty.bit, Ty.bit].map Ty.kindS := rfl
 have e2 : [strC] = [Ty.ret Ty.bit].map Ty.kindS := rfl
 have e3 : [strV] = [Ty.bit].map Ty.kindS := rfl
 have e4 : [strV, strC] = [Ty.bit, Ty.ret Ty.bit].map Ty.kindS := rfl
 have e5 : [strC, strC] = [Ty.ret Ty.bit, Ty.ret Ty.bit].map Ty.kindS := rfl
 unfold nod
 rw [e1, e4, e5, e2, e3, l1IfP_kinds, l1IfP_kinds, l1IfP_kinds, l1IfP_kinds, l1IfP_kinds]
 clear e1 e2 e3 e4 e5
 generalize hd.toList = L
 have i1 : Ty.bit.isVal = true := rfl
 have i2 : ∀ a, (Ty.ret a).isVal = false := fun _ => rfl
 have g1 : ∀ a b, (Ty.pair a b).kindS = strV := fun _ _ => rfl
 have g2 : ∀ a, (Ty.thunk a).kindS = strV := fun _ => rfl
 have g3 : ∀ a, (Ty.ret a).kindS = strC := fun _ => rfl
 have g4 : ∀ a b, (Ty.fn a b).kindS = strC := fun _ _ => rfl
 have g5 : ∀ a b, (Ty.choice a b).kindS = strC := fun _ _ => rfl
 match ks with
 | [] => simp [tya, kindOf]
 | [a] =>
  by_cases h1 : L = [42]
  ·subst h1; cases ha : a.isVal <;> simp_all [tya, kindOf]
  by_cases h2 : L = [117]
  ·subst h2; cases ha : a.isVal <;> simp_all [tya, kindOf]
  by_cases h3 : L = [102]
  ·subst h3; cases ha : a.isVal <;> simp_all [tya, kindOf]
  by_cases h4 : L = [62]
  ·subst h4; cases ha : a.isVal <;> simp_all [tya, kindOf]
  by_cases h5 : L = [38]
  ·subst h5; cases ha : a.isVal <;> simp_all [tya, kindOf]
  simp [tya, kindOf, h1, h2, h3, h4, h5]
 | [a, b] =>
  by_cases h1 : L = [42]
  ·subst h1; cases ha : a.isVal <;> cases hb : b.isVal <;> simp_all [tya, kindOf]
  by_cases h2 : L = [117]
  ·subst h2; cases ha : a.isVal <;> cases hb : b.isVal <;> simp_all [tya, kindOf]
  by_cases h3 : L = [102]
  ·subst h3; cases ha : a.isVal <;> cases hb : b.isVal <;> simp_all [tya, kindOf]
  by_cases h4 : L = [62]
  ·subst h4; cases ha : a.isVal <;> cases hb : b.isVal <;> simp_all [tya, kindOf]
  by_cases h5 : L = [38]
  ·subst h5; cases ha : a.isVal <;> cases hb : b.isVal <;> simp_all [tya, kindOf]
  simp [tya, kindOf, h1, h2, h3, h4, h5]
 | a :: b :: c :: r => simp [tya, kindOf]
mutual
theorem kind_ty : ∀ t : Tree, t.kind = kindOf t.ty
 | .atom s => by
  rw [Tree.kind, Tree.ty]
  by_cases h : s.toList = [98]
  ·rw [if_pos h, if_pos h]; rfl
  ·rw [if_neg h, if_neg h]; rfl
 | .node [] => by rw [Tree.kind, Tree.ty]; exact nodeKind_empty _
 | .node (q :: qs) => by
  rw [Tree.kind, Tree.ty, Tree.kinds]
  have hh : (Tree.node (q :: qs)).headAtom = q.text := rfl
  rw [hh, List.drop_one, List.tail_cons]
  rcases kinds_tys qs with ⟨ks, h1, h2⟩ | ⟨h1, x, hx, h0⟩
  ·rw [h1, h2]; exact nodeKind_kinds _ _
  ·rw [h1]; exact nodeKind_bad hx h0
theorem kinds_tys : ∀ ps : List Tree, (∃ ks, Tree.tys ps = some ks ∧ Tree.kinds ps = ks.map Ty.kindS) ∨ (Tree.tys ps = none ∧ ∃ x ∈ Tree.kinds ps, x.toList = [])
 | [] => Or.inl ⟨[], rfl, rfl⟩
 | p :: ps => by
  have hp := kind_ty p
  have hps := kinds_tys ps
  cases ht : p.ty with
  | none =>
   refine Or.inr ⟨by rw [Tree.tys, ht], p.kind, by simp [Tree.kinds], ?_⟩
   rw [hp, ht]; exact emp
  | some t =>
   rcases hps with ⟨ks, h1, h2⟩ | ⟨h1, x, hx, h0⟩
   ·refine Or.inl ⟨t :: ks, by rw [Tree.tys, ht, h1], ?_⟩
    rw [Tree.kinds, h2, hp, ht]; rfl
   ·refine Or.inr ⟨by rw [Tree.tys, ht, h1], x, by simp [Tree.kinds, hx], h0⟩
end
theorem kindS_some (t : Ty) : t.kindS.toList.isEmpty = false := by
 unfold Ty.kindS; split
 ·rw [stv]; rfl
 ·rw [stc]; rfl
def Ty.write : Ty → List UInt8
 | .bit => [98]
 | .pair a b => 40 :: 42 :: 32 :: (a.write ++ 32 :: (b.write ++ [41]))
 | .thunk c => 40 :: 117 :: 32 :: (c.write ++ [41])
 | .ret a => 40 :: 102 :: 32 :: (a.write ++ [41])
 | .fn a c => 40 :: 62 :: 32 :: (a.write ++ 32 :: (c.write ++ [41]))
 | .choice c d => 40 :: 38 :: 32 :: (c.write ++ 32 :: (d.write ++ [41]))
def Ty.writeL : List Ty → List UInt8
 | [] => []
 | t :: ts => 32 :: (t.write ++ Ty.writeL ts)
theorem tyParts_write {L : List UInt8} {ks : List Ty} {ty : Ty} (h : tya L ks = some ty) : ty.write = 40 :: (L ++ (Ty.writeL ks ++ [41])) := by
 unfold tya at h
 split at h
 ·split at h
  ·rename_i c; simp at h; subst h; rw [c.1]; simp [Ty.write, Ty.writeL]
  ·split at h
   ·rename_i c; simp at h; subst h; rw [c.1]; simp [Ty.write, Ty.writeL]
   ·split at h
    ·rename_i c; simp at h; subst h; rw [c.1]; simp [Ty.write, Ty.writeL]
    ·simp at h
 ·split at h
  ·rename_i c; simp at h; subst h; rw [c.1]; simp [Ty.write, Ty.writeL]
  ·split at h
   ·rename_i c; simp at h; subst h; rw [c.1]; simp [Ty.write, Ty.writeL]
   ·simp at h
 ·simp at h
theorem tyParts_head {L : List UInt8} {ks : List Ty} {ty : Ty} (h : tya L ks = some ty) : L = [ty.headB] := by
 unfold tya at h
 split at h
 ·split at h
  ·rename_i c; simp at h; subst h; exact c.1
  ·split at h
   ·rename_i c; simp at h; subst h; exact c.1
   ·split at h
    ·rename_i c; simp at h; subst h; exact c.1
    ·simp at h
 ·split at h
  ·rename_i c; simp at h; subst h; exact c.1
  ·split at h
   ·rename_i c; simp at h; subst h; exact c.1
   ·simp at h
 ·simp at h
mutual
theorem ty_write : ∀ (t : Tree) (ty : Ty), t.ty = some ty → t.write = ty.write
 | .atom s, ty, h => by
  rw [Tree.ty] at h
  split at h
  ·rename_i hs
   simp at h; subst h
   rw [Tree.write, ← Go.ByteArray.toList_eq, hs]; rfl
  ·simp at h
 | .node [], ty, h => by simp [Tree.ty] at h
 | .node (q :: qs), ty, h => by
  rw [Tree.ty] at h
  cases hk : Tree.tys qs with
  | none => rw [hk] at h; simp at h
  | some ks =>
   rw [hk] at h; simp only at h
   rw [Tree.write, tyParts_write h, tys_write qs ks hk]
   have hh := tyParts_head h
   cases q with
   | atom x => simp only [Tree.text] at hh ⊢; rw [Tree.write, Go.ByteArray.toList_eq]
   | node ps => rw [Tree.text, emp] at hh; simp at hh
theorem tys_write : ∀ (ps : List Tree) (ks : List Ty), Tree.tys ps = some ks → Tree.writes ps = Ty.writeL ks
 | [], ks, h => by simp [Tree.tys] at h; subst h; rfl
 | p :: ps, ks, h => by
  rw [Tree.tys] at h
  cases ht : p.ty with
  | none => rw [ht] at h; simp at h
  | some t =>
   rw [ht] at h; simp only at h
   cases hr : Tree.tys ps with
   | none => rw [hr] at h; simp at h
   | some ts =>
    rw [hr] at h; simp at h; subst h
    rw [Tree.writes, Ty.writeL, ty_write p t ht, tys_write ps ts hr]
end
theorem readTy_write {s : ByteArray} {ty : Ty} (h : readTy s = some ty) : s.toList = ty.write := by
 unfold readTy at h
 cases hp : parse s with
 | none => rw [hp] at h; simp at h
 | some t =>
  rw [hp] at h; simp only at h
  split at h
  ·rw [Go.ByteArray.toList_eq, parse_write hp, ty_write t ty h]
  ·simp at h
def Ty.text (t : Ty) : ByteArray := ⟨t.write.toArray⟩
theorem tex (t : Ty) : t.text.size = t.write.length := by unfold Ty.text; simp [ByteArray.size]
def ty0 (s : ByteArray) : Option Tree :=
 match parse s with
 | some t => if t.kind.toList.isEmpty = false ∧ t.size ≤ 12 then some t else none
 | none => none
theorem typePost_close {s : ByteArray} {w w' : World} {t : Tree} {a : ByteArray} {p : Option Addr} {l c : Nat} (hp : parse s = some t) (hk : t.kind.toList.isEmpty = false)
    (ht : TIn w' (fun b => w.heap.size ≤ b) t ⟨a, p, l, c⟩) (hb : Below w.heap.size w w') : Tre (ty0 s) w (.returned (.tuple #[.agg #[.string a, .slice p l c], .bool (decide ((t.size : Int) ≤ 12))])) w' := by
 by_cases h : t.size ≤ 12
 ·have e : ty0 s = some t := by rw [ty0, hp]; simp only; rw [if_pos ⟨hk, h⟩]
  have d : decide ((t.size : Int) ≤ 12) = true := decide_eq_true (by omega)
  rw [e, d]; exact trp ht hb
 ·have e : ty0 s = none := by rw [ty0, hp]; simp only; rw [if_neg (fun x => h x.2)]
  have d : decide ((t.size : Int) ≤ 12) = false := decide_eq_false (by omega)
  rw [e, d]; exact tre ht.len hb
theorem l1Type_yes (s : ByteArray) (hs : s.size ≤ 400000000) (w : World) (t : Tree) (hp : parse s = some t) (hk : t.kind.toList.isEmpty = false) : Calls Tryz.prog 98 #[.string s] w (Tre (ty0 s) w) := by
 have HC := hid (fun W => lpa s hs W)
 have HP := hid hp
 have hwt := pas hp
 have hsz := siz t
 clear hp
 go_enter Tryz.func98, Tryz.ntmps98
 go_wp2_with (go_at_call 54; refine (HC.out _).mono ?_; rintro e w1 hp; rw [HP.out] at hp; obtain ⟨pa, pp, pl, pc, rfl, hb1, ht⟩ := hp.some; clear hp)
 have q0 := blo (hea w (.cells #[.string ByteArray.empty, .slice none 0 0] 43) _ rfl) hb1 (by simp)
 have hlt := lt_of_block q0
 have e0 : ByteArray.empty = ({ data := #[] } : ByteArray) := rfl
 rw [e0] at q0
 clear e0
 obtain ⟨W, hW⟩ : ∃ W, W = w1.alloc (.cells #[.string pa, .slice pp pl pc] 43) := ⟨_, rfl⟩
 have kW : Kept w1 W := hW ▸ (Kept.refl w1).alloc (Nat.le_refl _) _
 have sW : w1.heap.size + 1 = W.heap.size := by rw [hW]; simp
 have c0 := cel (pai q0 (.cells #[.string pa, .slice pp pl pc] 43))
 have c1 := cel (hea w1 (.cells #[.string pa, .slice pp pl pc] 43) _ rfl)
 rw [← hW] at c0 c1 ⊢
 have SW := hid sW
 have HRES := hid (hW ▸ pai q0 (.cells #[.string pa, .slice pp pl pc] 43))
 have ht2 : TIn w1 (fun b => w.heap.size + 1 ≤ b) t ⟨pa, pp, pl, pc⟩ := ht.keep (fun _ _ _ => rfl) (fun k hk _ => by simpa using hk)
 have hsz2 : t.size ≤ 12000 := by omega
 have HC1 := hid (fun Wx (hb : But w.heap.size W Wx) => l1Kind_any (ht2.keep (w' := Wx) (S' := fun _ => True) (fun k hk hl => (hb.block k (by omega) (by omega)).trans (kW k hl)) (fun _ _ _ => trivial)) hwt Wx (Kept.refl _) (Nat.le_refl _))
 have HC2 := hid (fun Wx (hb : But w.heap.size W Wx) => l1Size_any (ht2.keep (w' := Wx) (S' := fun _ => True) (fun k hk hl => (hb.block k (by omega) (by omega)).trans (kW k hl)) (fun _ _ _ => trivial)) hsz2 Wx (Kept.refl _) (Nat.le_refl _))
 have HWE := hid hW
 have HB1 := hid hb1
 have HT := hid ht
 have HK := hid hk
 clear hW sW kW hb1 q0 ht ht2
 have hl1 : w1.heap.size < W.heap.size := by have := SW.out; omega
 have hl0 : w.heap.size < W.heap.size := by omega
 go_region_with (first | (go_at_call 99; refine (HC1.out _ ?_).mono ?_; exact But.start HRES.out; rintro e w2 ⟨rfl, hb2⟩; have hbW := Below.thenH (Below.refl _ W).drew hb2; have kk := keepH c1 c0 hl1 hl0 hbW) | (go_at_call 56; refine (HC2.out _ ?_).mono ?_; exact But.call (But.start HRES.out) hl0 hb2; rintro e w3 ⟨rfl, hb3⟩; have hbW2 := Below.thenH hbW hb3; have kk2 := keepH c1 c0 hl1 hl0 hbW2))
 all_goals
  go_wp2_with fail
  refine bodyPost_ret (v := .tuple #[.agg #[.string pa, .slice pp pl pc], .bool (decide ((t.size : Int) ≤ 12))]) (by simp [results, Tryz.results98, go_sem, kk2.2.2.1, kk2.2.2.2.1]) rfl ?_
  go_light
  have hcl := tree_close HB1.out HT.out (HWE.out ▸ hbW2) (.string pa) (.slice pp pl pc)
  exact typePost_close HP.out HK.out hcl.1 hcl.2
theorem l1Type_no (s : ByteArray) (hs : s.size ≤ 400000000) (w : World) (t : Tree) (hp : parse s = some t) (hk : t.kind.toList.isEmpty = true) : Calls Tryz.prog 98 #[.string s] w (Tre none w) := by
 have HC := hid (fun W => lpa s hs W)
 have HP := hid hp
 have hwt := pas hp
 clear hp
 go_enter Tryz.func98, Tryz.ntmps98
 go_wp2_with (go_at_call 54; refine (HC.out _).mono ?_; rintro e w1 hp; rw [HP.out] at hp; obtain ⟨pa, pp, pl, pc, rfl, hb1, ht⟩ := hp.some; clear hp)
 have q0 := blo (hea w (.cells #[.string ByteArray.empty, .slice none 0 0] 43) _ rfl) hb1 (by simp)
 have hlt := lt_of_block q0
 have e0 : ByteArray.empty = ({ data := #[] } : ByteArray) := rfl
 rw [e0] at q0
 clear e0
 obtain ⟨W, hW⟩ : ∃ W, W = w1.alloc (.cells #[.string pa, .slice pp pl pc] 43) := ⟨_, rfl⟩
 have kW : Kept w1 W := hW ▸ (Kept.refl w1).alloc (Nat.le_refl _) _
 have sW : w1.heap.size + 1 = W.heap.size := by rw [hW]; simp
 have c0 := cel (pai q0 (.cells #[.string pa, .slice pp pl pc] 43))
 have c1 := cel (hea w1 (.cells #[.string pa, .slice pp pl pc] 43) _ rfl)
 rw [← hW] at c0 c1 ⊢
 have SW := hid sW
 have HRES := hid (hW ▸ pai q0 (.cells #[.string pa, .slice pp pl pc] 43))
 have ht2 : TIn w1 (fun b => w.heap.size + 1 ≤ b) t ⟨pa, pp, pl, pc⟩ := ht.keep (fun _ _ _ => rfl) (fun k hk _ => by simpa using hk)
 have HC1 := hid (fun Wx (hb : But w.heap.size W Wx) => l1Kind_any (ht2.keep (w' := Wx) (S' := fun _ => True) (fun k hk hl => (hb.block k (by omega) (by omega)).trans (kW k hl)) (fun _ _ _ => trivial)) hwt Wx (Kept.refl _) (Nat.le_refl _))
 have HWE := hid hW
 have HB1 := hid hb1
 have HT := hid ht
 clear hW sW kW hb1 q0 ht ht2
 have hl1 : w1.heap.size < W.heap.size := by have := SW.out; omega
 have hl0 : w.heap.size < W.heap.size := by omega
 go_region_with (first | (go_at_call 99; refine (HC1.out _ ?_).mono ?_; exact But.start HRES.out; rintro e w2 ⟨rfl, hb2⟩; have hbW := Below.thenH (Below.refl _ W).drew hb2; have kk := keepH c1 c0 hl1 hl0 hbW))
 all_goals
  go_wp2_with fail
  refine bodyPost_ret (v := .tuple #[.agg #[.string pa, .slice pp pl pc], .bool false]) (by simp [results, Tryz.results98, go_sem, kk.2.2.1, kk.2.2.2.1]) rfl ?_
  go_light
  have hcl := tree_close HB1.out HT.out (HWE.out ▸ hbW) (.string pa) (.slice pp pl pc)
  exact tre HT.out.len hcl.2
theorem l1Type_none (s : ByteArray) (hs : s.size ≤ 400000000) (w : World) (hp : parse s = none) : Calls Tryz.prog 98 #[.string s] w (Tre none w) := by
 have HC := hid (fun W => lpa s hs W)
 have HP := hid hp
 clear hp
 go_enter Tryz.func98, Tryz.ntmps98
 go_wp2_with (go_at_call 54; refine (HC.out _).mono ?_; rintro e w1 hp; rw [HP.out] at hp; obtain ⟨pa, pp, pl, pc, rfl, hpl, hb1⟩ := hp.none; clear hp)
 have q0 := blo (hea w (.cells #[.string ByteArray.empty, .slice none 0 0] 43) _ rfl) hb1 (by simp)
 have hlt := lt_of_block q0
 have e0 : ByteArray.empty = ({ data := #[] } : ByteArray) := rfl
 rw [e0] at q0
 clear e0
 have c0 := cel (pai q0 (.cells #[.string pa, .slice pp pl pc] 43))
 have c1 := cel (hea w1 (.cells #[.string pa, .slice pp pl pc] 43) _ rfl)
 obtain ⟨W, hW⟩ : ∃ W, W = w1.alloc (.cells #[.string pa, .slice pp pl pc] 43) := ⟨_, rfl⟩
 rw [← hW] at c0 c1 ⊢
 have HWE := hid hW
 have HB1 := hid hb1
 clear q0 hb1 hW
 go_region
 all_goals
  go_wp2_with fail
  refine bodyPost_ret (v := .tuple #[.agg #[.string pa, .slice pp pl pc], .bool false]) (by simp [results, Tryz.results98, go_sem, c0.1, c0.2.1]) rfl ?_
  go_light
  have hcl := reu HB1.out (.cells #[.string pa, .slice pp pl pc] 43) (.string pa) (.slice pp pl pc)
  rw [← HWE.out] at hcl
  exact tre hpl (below_same hcl)
theorem l1Type_any (s : ByteArray) (hs : s.size ≤ 400000000) (w : World) : Calls Tryz.prog 98 #[.string s] w (Tre (ty0 s) w) := by
 cases hp : parse s with
 | none =>
  have e : ty0 s = none := by rw [ty0, hp]
  rw [e]; exact l1Type_none s hs w hp
 | some t =>
  cases hk : t.kind.toList.isEmpty with
  | true =>
   have e : ty0 s = none := by rw [ty0, hp]; simp [hk]
   rw [e]; exact l1Type_no s hs w t hp hk
  | false => exact l1Type_yes s hs w t hp hk
theorem tym {s : ByteArray} {t : Tree} (h : ty0 s = some t) : parse s = some t ∧ t.size ≤ 12 ∧ ∃ ty, t.ty = some ty ∧ readTy s = some ty ∧ t.kind = ty.kindS := by
 unfold ty0 at h
 cases hp : parse s with
 | none => rw [hp] at h; simp at h
 | some u =>
  rw [hp] at h; simp only at h
  split at h
  ·rename_i hc
   simp at h; subst h
   have hk := kind_ty u
   cases hty : u.ty with
   | none => rw [hk, hty, kindOf, emp] at hc; simp at hc
   | some ty => exact ⟨rfl, hc.2, ty, rfl, by rw [readTy, hp]; simp [hc.2, hty], by rw [hk, hty]; rfl⟩
  ·simp at h
theorem ty1 {s : ByteArray} (h : ty0 s = none) : readTy s = none := by
 unfold ty0 at h
 unfold readTy
 cases hp : parse s with
 | none => rfl
 | some u =>
  rw [hp] at h; simp only at h ⊢
  by_cases h12 : u.size ≤ 12
  ·rw [if_pos h12]
   cases hty : u.ty with
   | none => rfl
   | some ty =>
    exfalso
    have hk := kind_ty u
    rw [hty] at hk
    have := kindS_some ty
    rw [show ty.kindS = u.kind from hk.symm] at this
    rw [if_pos ⟨this, h12⟩] at h
    simp at h
  ·rw [if_neg h12]
theorem head_bit (w : World) : Calls Tryz.prog 218 #[.agg #[]] w fun e w' => e = .returned (.string ⟨#[98]⟩) ∧ Below w.heap.size w w' := by
 go_enter Tryz.func218, Tryz.ntmps218
 go_wp2
 go_ret
 exact ⟨rfl, (Below.refl _ _).alloc (by simp) _⟩
theorem head_pair (x y : Value) (w : World) : Calls Tryz.prog 198 #[.agg #[x, y]] w fun e w' => e = .returned (.string ⟨#[42]⟩) ∧ Below w.heap.size w w' := by
 go_enter Tryz.func198, Tryz.ntmps198
 go_wp2
 go_ret
 exact ⟨rfl, (Below.refl _ _).alloc (by simp) _⟩
theorem head_thunk (x : Value) (w : World) : Calls Tryz.prog 202 #[.agg #[x]] w fun e w' => e = .returned (.string ⟨#[117]⟩) ∧ Below w.heap.size w w' := by
 go_enter Tryz.func202, Tryz.ntmps202
 go_wp2
 go_ret
 exact ⟨rfl, (Below.refl _ _).alloc (by simp) _⟩
theorem head_ret (x : Value) (w : World) : Calls Tryz.prog 206 #[.agg #[x]] w fun e w' => e = .returned (.string ⟨#[102]⟩) ∧ Below w.heap.size w w' := by
 go_enter Tryz.func206, Tryz.ntmps206
 go_wp2
 go_ret
 exact ⟨rfl, (Below.refl _ _).alloc (by simp) _⟩
theorem head_fn (x y : Value) (w : World) : Calls Tryz.prog 210 #[.agg #[x, y]] w fun e w' => e = .returned (.string ⟨#[62]⟩) ∧ Below w.heap.size w w' := by
 go_enter Tryz.func210, Tryz.ntmps210
 go_wp2
 go_ret
 exact ⟨rfl, (Below.refl _ _).alloc (by simp) _⟩
theorem head_choice (x y : Value) (w : World) : Calls Tryz.prog 214 #[.agg #[x, y]] w fun e w' => e = .returned (.string ⟨#[38]⟩) ∧ Below w.heap.size w w' := by
 go_enter Tryz.func214, Tryz.ntmps214
 go_wp2
 go_ret
 exact ⟨rfl, (Below.refl _ _).alloc (by simp) _⟩
theorem kids_bit (w : World) : Calls Tryz.prog 219 #[.agg #[]] w fun e w' => e = .returned (.slice none 0 0) ∧ Below w.heap.size w w' := by
 go_enter Tryz.func219, Tryz.ntmps219
 go_wp2
 go_ret
 exact ⟨rfl, (Below.refl _ _).alloc (by simp) _⟩
theorem kids_pair (tx : Ty) (ty : Ty) (w : World) : Calls Tryz.prog 199 #[.agg #[tx.val, ty.val]] w fun e w' => ∃ b, e = .returned (.slice (some ⟨b, 0, none⟩) 2 2) ∧ w'.heap[b]? = some (.cells #[tx.val, ty.val] 54 (0, 0)) ∧ Below w.heap.size w w' := by
 obtain ⟨ux, vx, hx⟩ := tx.val_iface
 rw [hx]
 obtain ⟨uy, vy, hy⟩ := ty.val_iface
 rw [hy]
 go_enter Tryz.func199, Tryz.ntmps199
 go_wp2
 go_ret
 exact ⟨w.heap.size + 1, rfl, hea _ _ _ (by simp), ((Below.refl _ _).alloc (by simp) _).alloc (by simp) _⟩
theorem kids_thunk (tx : Ty) (w : World) : Calls Tryz.prog 203 #[.agg #[tx.val]] w fun e w' => ∃ b, e = .returned (.slice (some ⟨b, 0, none⟩) 1 1) ∧ w'.heap[b]? = some (.cells #[tx.val] 54 (0, 0)) ∧ Below w.heap.size w w' := by
 obtain ⟨ux, vx, hx⟩ := tx.val_iface
 rw [hx]
 go_enter Tryz.func203, Tryz.ntmps203
 go_wp2
 go_ret
 exact ⟨w.heap.size + 1, rfl, hea _ _ _ (by simp), ((Below.refl _ _).alloc (by simp) _).alloc (by simp) _⟩
theorem kids_ret (tx : Ty) (w : World) : Calls Tryz.prog 207 #[.agg #[tx.val]] w fun e w' => ∃ b, e = .returned (.slice (some ⟨b, 0, none⟩) 1 1) ∧ w'.heap[b]? = some (.cells #[tx.val] 54 (0, 0)) ∧ Below w.heap.size w w' := by
 obtain ⟨ux, vx, hx⟩ := tx.val_iface
 rw [hx]
 go_enter Tryz.func207, Tryz.ntmps207
 go_wp2
 go_ret
 exact ⟨w.heap.size + 1, rfl, hea _ _ _ (by simp), ((Below.refl _ _).alloc (by simp) _).alloc (by simp) _⟩
theorem kids_fn (tx : Ty) (ty : Ty) (w : World) : Calls Tryz.prog 211 #[.agg #[tx.val, ty.val]] w fun e w' => ∃ b, e = .returned (.slice (some ⟨b, 0, none⟩) 2 2) ∧ w'.heap[b]? = some (.cells #[tx.val, ty.val] 54 (0, 0)) ∧ Below w.heap.size w w' := by
 obtain ⟨ux, vx, hx⟩ := tx.val_iface
 rw [hx]
 obtain ⟨uy, vy, hy⟩ := ty.val_iface
 rw [hy]
 go_enter Tryz.func211, Tryz.ntmps211
 go_wp2
 go_ret
 exact ⟨w.heap.size + 1, rfl, hea _ _ _ (by simp), ((Below.refl _ _).alloc (by simp) _).alloc (by simp) _⟩
theorem kids_choice (tx : Ty) (ty : Ty) (w : World) : Calls Tryz.prog 215 #[.agg #[tx.val, ty.val]] w fun e w' => ∃ b, e = .returned (.slice (some ⟨b, 0, none⟩) 2 2) ∧ w'.heap[b]? = some (.cells #[tx.val, ty.val] 54 (0, 0)) ∧ Below w.heap.size w w' := by
 obtain ⟨ux, vx, hx⟩ := tx.val_iface
 rw [hx]
 obtain ⟨uy, vy, hy⟩ := ty.val_iface
 rw [hy]
 go_enter Tryz.func215, Tryz.ntmps215
 go_wp2
 go_ret
 exact ⟨w.heap.size + 1, rfl, hea _ _ _ (by simp), ((Below.refl _ _).alloc (by simp) _).alloc (by simp) _⟩
def Ty.kids : Ty → List Ty
 | .bit => []
 | .pair a b => [a, b]
 | .thunk c => [c]
 | .ret a => [a]
 | .fn a c => [a, c]
 | .choice c d => [c, d]
def kidsO : Option Ty → List Ty
 | some ty => ty.kids
 | none => []
theorem tyParts_kids {L : List UInt8} {ks : List Ty} {ty : Ty} (h : tya L ks = some ty) : ty.kids = ks := by
 unfold tya at h
 split at h
 ·split at h
  ·simp at h; subst h; rfl
  ·split at h
   ·simp at h; subst h; rfl
   ·split at h
    ·simp at h; subst h; rfl
    ·simp at h
 ·split at h
  ·simp at h; subst h; rfl
  ·split at h
   ·simp at h; subst h; rfl
   ·simp at h
 ·simp at h
theorem tys_get : ∀ (l : List Tree) (ks : List Ty), Tree.tys l = some ks → ∀ (i : Nat) (p : Tree), l[i]? = some p → ∃ t, ks[i]? = some t ∧ p.ty = some t := by
 intro l; induction l with
 | nil => intro ks _ i p h; simp at h
 | cons q l ih =>
  intro ks h i p hp
  rw [Tree.tys] at h
  cases hq : q.ty with
  | none => rw [hq] at h; simp at h
  | some t =>
   rw [hq] at h; simp only at h
   cases hr : Tree.tys l with
   | none => rw [hr] at h; simp at h
   | some ts =>
    rw [hr] at h; simp at h; subst h
    cases i with
    | zero => simp at hp; subst hp; exact ⟨t, rfl, hq⟩
    | succ i => simpa using ih ts hr i p (by simpa using hp)
def headOf : Option Ty → ByteArray
 | some t => ⟨#[t.headB]⟩
 | none => ByteArray.empty
theorem ty_head : ∀ (t : Tree) (ty : Ty), t.ty = some ty → (match t with | .atom s => s | .node [] => ByteArray.empty | .node (q :: _) => q.text) = ⟨#[ty.headB]⟩
 | .atom s, ty, h => by
  rw [Tree.ty] at h
  split at h
  ·rename_i hs; simp at h; subst h; exact byt hs
  ·simp at h
 | .node [], ty, h => by simp [Tree.ty] at h
 | .node (q :: qs), ty, h => by
  rw [Tree.ty] at h
  cases hk : Tree.tys qs with
  | none => rw [hk] at h; simp at h
  | some ks =>
   rw [hk] at h; simp only at h
   show q.text = _
   have : ∀ (L : List UInt8), tya L ks = some ty → L = [ty.headB] := by
    intro L hL
    unfold tya at hL
    split at hL
    ·split at hL
     ·rename_i c; simp at hL; subst hL; exact c.1
     ·split at hL
      ·rename_i c; simp at hL; subst hL; exact c.1
      ·split at hL
       ·rename_i c; simp at hL; subst hL; exact c.1
       ·simp at hL
    ·split at hL
     ·rename_i c; simp at hL; subst hL; exact c.1
     ·split at hL
      ·rename_i c; simp at hL; subst hL; exact c.1
      ·simp at hL
    ·simp at hL
   exact byt (this _ h)
theorem spe (s : ByteArray) (hs : s.size ≤ 400000000) (w : World) : Calls Tryz.prog 103 #[.string s] w fun e w' => e = .returned (.string (headOf (readTy s))) ∧ Below w.heap.size w w' := by
 have HC := hid (fun W => l1Type_any s hs W)
 cases ht : ty0 s with
 | none =>
  have HR := hid (ty1 ht)
  have HT := hid ht
  clear ht
  go_enter Tryz.func103, Tryz.ntmps103
  go_wp2_with (go_at_call 98; refine (HC.out _).mono ?_; rintro e w1 hp; rw [HT.out] at hp; obtain ⟨pa, pp, pl, pc, rfl, hpl, hb1⟩ := hp.none; clear hp)
  go_ret
  exact ⟨rer (by rw [HR.out]; rfl), hb1.alloc hb1.size _⟩
 | some t =>
  obtain ⟨hpt, hsz, ty, hty, hrt, hk⟩ := tym ht
  have HR := hid hrt
  have HH := hid (ty_head t ty hty)
  have HT := hid ht
  clear ht hpt hty hrt hk
  cases t with
  | atom x =>
   go_enter Tryz.func103, Tryz.ntmps103
   go_wp2_with (go_at_call 98; refine (HC.out _).mono ?_; rintro e w1 hp; rw [HT.out] at hp; obtain ⟨pa, pp, pl, pc, rfl, hb1, htr⟩ := hp.some; clear hp; obtain ⟨rfl, rfl, rfl, rfl, hx⟩ := htr.atom_inv; clear htr; have he := ise _ hx)
   go_ret
   exact ⟨rer (by rw [HR.out]; exact HH.out), hb1.alloc hb1.size _⟩
  | node ps =>
   go_enter Tryz.func103, Tryz.ntmps103
   go_wp2_with (go_at_call 98; refine (HC.out _).mono ?_; rintro e w1 hp; rw [HT.out] at hp; obtain ⟨pa, pp, pl, pc, rfl, hb1, htr⟩ := hp.some; clear hp; obtain ⟨b, A, rfl, rfl, rfl, hlc, hcm, h0, hA, hB, hps⟩ := htr.node_inv; clear htr; have c0 := hA 0 h0; rw [Nat.zero_mul] at c0; have c1 := fun o => (World.cell?_of_block (w := w1) (a := ⟨b, 0, none⟩) (heap_alloc_old w1 o (World.block_lt_of_cell? w1 _ c0))).trans c0; have HPS := hid hps; clear hA hB hps c0)
   go_ret
   refine ⟨rer ?_, hb1.alloc hb1.size _⟩
   rw [HR.out]
   cases ps with
   | nil => simp at h0
   | cons q qs => exact ((HPS.out 0 q rfl).text).trans HH.out
inductive Sg where
 | V | M | X | A | C
 deriving DecidableEq
def shape (h : List UInt8) : List Sg :=
 if h = [112, 97, 105, 114] then [.V, .V]
 else if h = [116, 104, 117, 110, 107] ∨ h = [102, 115, 116] ∨ h = [115, 110, 100] then [.M]
 else if h = [114, 101, 116, 117, 114, 110] ∨ h = [102, 111, 114, 99, 101] then [.V]
 else if h = [116, 111] then [.M, .X, .M]
 else if h = [108, 97, 109] then [.X, .A, .M]
 else if h = [97, 112, 112] then [.M, .V]
 else if h = [105, 102] then [.V, .M, .M]
 else if h = [115, 112, 108, 105, 116] then [.V, .X, .X, .M]
 else if h = [98, 111, 116, 104] ∨ h = [116, 114, 121] then [.M, .M]
 else if h = [103, 101, 116] then [.X, .M]
 else if h = [112, 117, 116] then [.V, .M]
 else if h = [102, 97, 105, 108] then [.C]
 else []
inductive Tm where
 | mk (head atom : ByteArray) (depth : Int) (binds : List ByteArray) (ty : Option Ty) (kids : List Tm)
def strName : ByteArray := ⟨#[110, 97, 109, 101]⟩
def strBit : ByteArray := ⟨#[98, 105, 116]⟩
def depthR (s : List UInt8) : List ByteArray → Nat → Int
 | [], _ => -1
 | x :: l, n => if x.toList = s then n else depthR s l (n + 1)
def depthIn (s : List UInt8) (ar : List ByteArray) : Int := depthR s ar.reverse 0
def atomTm (ar : List ByteArray) (s : ByteArray) : Option Tm :=
 if s.toList = [48] ∨ s.toList = [49] then some (.mk strBit s (-1) [] none [])
 else if nameB s.toList then some (.mk strName s (depthIn s.toList ar) [] none [])
 else none
def isv (h : List UInt8) : Bool := decide (h = [110, 97, 109, 101] ∨ h = [98, 105, 116] ∨ h = [112, 97, 105, 114] ∨ h = [116, 104, 117, 110, 107])
def Tm.isVal : Tm → Bool
 | .mk hd _ _ _ _ _ => isv hd.toList
structure St where
 binds : List ByteArray
 ty : Option Ty
 kids : List Tm
def St.none : St := ⟨[], Option.none, []⟩
def addX (s : ByteArray) (st : St) : Option St := if nameB s.toList ∧ ¬ (st.binds.map (·.toList)).contains s.toList then some { st with binds := st.binds ++ [s] } else none
def addT (v : Bool) (t : Tree) (st : St) : Option St := match tyLim t with
 | some ty => if ty.isVal = v then some { st with ty := some ty } else none
 | none => none
def addK (v : Bool) (k : Option Tm) (st : St) : Option St := match k with
 | some m => if m.isVal = v then some { st with kids := st.kids ++ [m] } else none
 | none => none
mutual
def Tree.tm (ar : List ByteArray) : Tree → Option Tm
 | .atom s => atomTm ar s
 | .node [] => none
 | .node (h :: ps) => if shape h.text.toList = [] ∨ (shape h.text.toList).length ≠ ps.length then none else
  match Tree.parts ar (shape h.text.toList) ps St.none with
  | some st => some (.mk h.text ByteArray.empty 0 st.binds st.ty st.kids)
  | none => none
def Tree.parts (ar : List ByteArray) : List Sg → List Tree → St → Option St
 | [], _, st => some st
 | _ :: _, [], _ => none
 | c :: cs, p :: ps, st =>
  match (match c with
   | .X => addX p.text st
   | .A => addT true p st
   | .C => addT false p st
   | .V => addK true (Tree.tm (ar ++ st.binds) p) st
   | .M => addK false (Tree.tm (ar ++ st.binds) p) st) with
  | some st' => Tree.parts ar cs ps st'
  | none => none
end
mutual
def Tree.srt : Tree → Option Bool
 | .atom s => if s.toList = [48] ∨ s.toList = [49] ∨ nameB s.toList = true then some true else none
 | .node [] => none
 | .node (h :: ps) => if shape h.text.toList = [] ∨ (shape h.text.toList).length ≠ ps.length then none else
  if Tree.fits (shape h.text.toList) ps = true ∧ ¬ (h.text.toList = [115, 112, 108, 105, 116] ∧ (ps[1]?.map (·.text.toList)) = (ps[2]?.map (·.text.toList))) then some (isv h.text.toList) else none
def Tree.fits : List Sg → List Tree → Bool
 | [], _ => true
 | _ :: _, [] => false
 | c :: cs, p :: ps => (match c with
     | .X => nameB p.text.toList
     | .A => (tyLim p).any Ty.isVal
     | .C => (tyLim p).any (!Ty.isVal ·)
     | .V => decide (Tree.srt p = some true)
     | .M => decide (Tree.srt p = some false)) && Tree.fits cs ps
end
def xsOf : List Sg → List Tree → List ByteArray
 | .X :: cs, p :: ps => p.text :: xsOf cs ps
 | _ :: cs, _ :: ps => xsOf cs ps
 | _, _ => []
def fresh : List (List UInt8) → List ByteArray → Bool
 | _, [] => true
 | B, x :: l => !B.contains x.toList && fresh (B ++ [x.toList]) l
theorem addK_some {v : Bool} {k : Option Tm} {st : St} : (addK v k st).isSome = decide (k.map Tm.isVal = some v) := by
 unfold addK
 cases k with
 | none => simp
 | some m => by_cases h : m.isVal = v <;> simp [h]
theorem addK_binds {v : Bool} {k : Option Tm} {st st' : St} (h : addK v k st = some st') : st'.binds = st.binds := by
 unfold addK at h
 split at h
 ·split at h
  ·simp at h; subst h; rfl
  ·simp at h
 ·simp at h
theorem addT_some {v : Bool} {t : Tree} {st : St} : (addT v t st).isSome = (tyLim t).any (fun ty => ty.isVal == v) := by
 unfold addT
 cases tyLim t with
 | none => simp
 | some m => by_cases h : m.isVal = v <;> simp [h]
theorem addT_binds {v : Bool} {t : Tree} {st st' : St} (h : addT v t st = some st') : st'.binds = st.binds := by
 unfold addT at h
 split at h
 ·split at h
  ·simp at h; subst h; rfl
  ·simp at h
 ·simp at h
theorem pao (ar : List ByteArray) : ∀ (cs : List Sg) (ps : List Tree) (st : St), (∀ p ∈ ps, ∀ ar, (p.tm ar).map Tm.isVal = p.srt) → cs.length = ps.length →
    (Tree.parts ar cs ps st).isSome = (Tree.fits cs ps && fresh (st.binds.map (·.toList)) (xsOf cs ps))
 | [], [], st, _, _ => by simp [Tree.parts, Tree.fits, xsOf, fresh]
 | c :: cs, p :: ps, st, ih, hl => by
  have ih' : ∀ p ∈ ps, ∀ ar, (p.tm ar).map Tm.isVal = p.srt := fun q hq => ih q (List.mem_cons_of_mem _ hq)
  have hl' : cs.length = ps.length := by simpa using hl
  cases c with
  | X =>
   rw [Tree.parts, Tree.fits]
   simp only [xsOf, fresh]
   unfold addX
   by_cases h : nameB p.text.toList = true ∧ ¬ (st.binds.map (·.toList)).contains p.text.toList = true
   ·rw [if_pos h]
    simp only
    rw [pao ar cs ps _ ih' hl']
    have h2 : ((st.binds.map (·.toList)).contains p.text.toList) = false := by simpa using h.2
    rw [h.1, h2]; simp
   ·rw [if_neg h]
    by_cases h1 : nameB p.text.toList = true
    ·have h2 : ((st.binds.map (·.toList)).contains p.text.toList) = true := by simpa [h1] using h
     rw [h2]; simp
    ·have h1' : nameB p.text.toList = false := by simpa using h1
     rw [h1']; simp
  | A =>
   rw [Tree.parts, Tree.fits]
   simp only [xsOf]
   have h0 := addT_some (v := true) (t := p) (st := st)
   cases h : addT true p st with
   | none => rw [h] at h0; simp at h0; simp; intro h1; cases ht : tyLim p <;> simp_all
   | some st' =>
    rw [h] at h0
    simp only
    rw [pao ar cs ps _ ih' hl', addT_binds h]
    have : (tyLim p).any Ty.isVal = true := by cases ht : tyLim p <;> simp_all
    rw [this]; simp
  | C =>
   rw [Tree.parts, Tree.fits]
   simp only [xsOf]
   have h0 := addT_some (v := false) (t := p) (st := st)
   cases h : addT false p st with
   | none => rw [h] at h0; simp at h0; simp; intro h1; cases ht : tyLim p <;> simp_all
   | some st' =>
    rw [h] at h0
    simp only
    rw [pao ar cs ps _ ih' hl', addT_binds h]
    have : (tyLim p).any (!Ty.isVal ·) = true := by cases ht : tyLim p <;> simp_all
    rw [this]; simp
  | V =>
   rw [Tree.parts, Tree.fits]
   simp only [xsOf]
   have h0 := addK_some (v := true) (k := p.tm (ar ++ st.binds)) (st := st)
   rw [ih p (List.mem_cons_self ..)] at h0
   cases h : addK true (p.tm (ar ++ st.binds)) st with
   | none => rw [h] at h0; simp at h0; simp [h0]
   | some st' =>
    rw [h] at h0; simp at h0
    simp only
    rw [pao ar cs ps _ ih' hl', addK_binds h]; simp [h0]
  | M =>
   rw [Tree.parts, Tree.fits]
   simp only [xsOf]
   have h0 := addK_some (v := false) (k := p.tm (ar ++ st.binds)) (st := st)
   rw [ih p (List.mem_cons_self ..)] at h0
   cases h : addK false (p.tm (ar ++ st.binds)) st with
   | none => rw [h] at h0; simp at h0; simp [h0]
   | some st' =>
    rw [h] at h0; simp at h0
    simp only
    rw [pao ar cs ps _ ih' hl', addK_binds h]; simp [h0]
theorem shp (h : List UInt8) : (h = [115, 112, 108, 105, 116] ∧ shape h = [.V, .X, .X, .M]) ∨ (h ≠ [115, 112, 108, 105, 116] ∧ (shape h = [.V, .V] ∨ shape h = [.M] ∨ shape h = [.V] ∨ shape h = [.M, .X, .M] ∨ shape h = [.X, .A, .M] ∨ shape h = [.M, .V] ∨ shape h = [.V, .M, .M] ∨ shape h = [.M, .M] ∨ shape h = [.X, .M] ∨ shape h = [.V, .M] ∨ shape h = [.C] ∨ shape h = [])) := by
 by_cases hs : h = [115, 112, 108, 105, 116]
 ·subst hs; exact Or.inl ⟨rfl, rfl⟩
 ·refine Or.inr ⟨hs, ?_⟩
  generalize hx : shape h = l
  unfold shape at hx
  by_cases c0 : h = [112, 97, 105, 114]
  ·rw [if_pos c0] at hx; subst hx; decide
  rw [if_neg c0] at hx
  by_cases c1 : h = [116, 104, 117, 110, 107] ∨ h = [102, 115, 116] ∨ h = [115, 110, 100]
  ·rw [if_pos c1] at hx; subst hx; decide
  rw [if_neg c1] at hx
  by_cases c2 : h = [114, 101, 116, 117, 114, 110] ∨ h = [102, 111, 114, 99, 101]
  ·rw [if_pos c2] at hx; subst hx; decide
  rw [if_neg c2] at hx
  by_cases c3 : h = [116, 111]
  ·rw [if_pos c3] at hx; subst hx; decide
  rw [if_neg c3] at hx
  by_cases c4 : h = [108, 97, 109]
  ·rw [if_pos c4] at hx; subst hx; decide
  rw [if_neg c4] at hx
  by_cases c5 : h = [97, 112, 112]
  ·rw [if_pos c5] at hx; subst hx; decide
  rw [if_neg c5] at hx
  by_cases c6 : h = [105, 102]
  ·rw [if_pos c6] at hx; subst hx; decide
  rw [if_neg c6] at hx
  rw [if_neg hs] at hx
  by_cases c8 : h = [98, 111, 116, 104] ∨ h = [116, 114, 121]
  ·rw [if_pos c8] at hx; subst hx; decide
  rw [if_neg c8] at hx
  by_cases c9 : h = [103, 101, 116]
  ·rw [if_pos c9] at hx; subst hx; decide
  rw [if_neg c9] at hx
  by_cases c10 : h = [112, 117, 116]
  ·rw [if_pos c10] at hx; subst hx; decide
  rw [if_neg c10] at hx
  by_cases c11 : h = [102, 97, 105, 108]
  ·rw [if_pos c11] at hx; subst hx; decide
  rw [if_neg c11] at hx
  subst hx; decide
theorem fresh_shape (h : List UInt8) (ps : List Tree) (hl : (shape h).length = ps.length) :
    fresh [] (xsOf (shape h) ps) = !decide (h = [115, 112, 108, 105, 116] ∧ ps[1]?.map (·.text.toList) = ps[2]?.map (·.text.toList)) := by
 rcases shp h with ⟨hs, he⟩ | ⟨hs, he⟩
 ·rw [he] at hl ⊢
  match ps, hl with
  | [a, b, c, d], _ => simp [xsOf, fresh, eq_comm, hs]
 ·simp only [hs, false_and, decide_false, Bool.not_false]
  rcases he with he | he | he | he | he | he | he | he | he | he | he | he <;> rw [he] at hl ⊢
  all_goals (rcases ps with _ | ⟨a, _ | ⟨b, _ | ⟨c, _ | ⟨d, ps⟩⟩⟩⟩ <;> first | rfl | (simp at hl))
theorem tm_isVal (t : Tree) (ar : List ByteArray) : (t.tm ar).map Tm.isVal = t.srt := by
 match t with
 | .atom s =>
  rw [Tree.tm, Tree.srt, atomTm]
  by_cases h1 : s.toList = [48] ∨ s.toList = [49]
  ·rw [if_pos h1, if_pos (by rcases h1 with h | h <;> simp [h])]
   have e : isv strBit.toList = true := by rw [Go.ByteArray.toList_eq]; rfl
   simp [Tm.isVal, e]
  ·rw [if_neg h1]
   have e : isv strName.toList = true := by rw [Go.ByteArray.toList_eq]; rfl
   by_cases h2 : nameB s.toList = true
   ·rw [if_pos h2, if_pos (Or.inr (Or.inr h2))]; simp [Tm.isVal, e]
   ·rw [if_neg h2, if_neg (by intro h; rcases h with h | h | h; exact h1 (Or.inl h); exact h1 (Or.inr h); exact h2 h)]; rfl
 | .node [] => rfl
 | .node (h :: ps) =>
  rw [Tree.tm, Tree.srt]
  by_cases hc : shape h.text.toList = [] ∨ (shape h.text.toList).length ≠ ps.length
  ·rw [if_pos hc, if_pos hc]; rfl
  ·rw [if_neg hc, if_neg hc]
   have hl : (shape h.text.toList).length = ps.length := by
    rcases Nat.decEq (shape h.text.toList).length ps.length with h | h
    ·exact absurd (Or.inr h) hc
    ·exact h
   have hps := pao ar (shape h.text.toList) ps St.none (fun p hp ar => tm_isVal p ar) hl
   rw [show St.none.binds.map (·.toList) = [] from rfl, fresh_shape _ _ hl] at hps
   cases hq : Tree.parts ar (shape h.text.toList) ps St.none with
   | none =>
    rw [hq] at hps
    rw [if_neg]
    ·rfl
    ·intro hh
     rw [hh.1] at hps
     simp only [Option.isSome_none, Bool.true_and, Bool.false_eq] at hps
     simp at hps
     exact hh.2 hps
   | some st =>
    rw [hq] at hps
    simp only [Option.isSome_some, Bool.true_eq, Bool.and_eq_true] at hps
    rw [if_pos ⟨hps.1, by have := hps.2; rw [Bool.not_eq_true'] at this; exact of_decide_eq_false this⟩]
    rfl
termination_by t
decreasing_by
 have := List.sizeOf_lt_of_mem hp
 simp; omega
def Ty.atoms : Ty → Nat
 | .bit => 1
 | .pair a b => 1 + (a.atoms + b.atoms)
 | .thunk c => 1 + c.atoms
 | .ret a => 1 + a.atoms
 | .fn a c => 1 + (a.atoms + c.atoms)
 | .choice c d => 1 + (c.atoms + d.atoms)
def Ty.atomsL : List Ty → Nat
 | [] => 0
 | t :: ts => t.atoms + Ty.atomsL ts
theorem tyParts_atoms {L : List UInt8} {ks : List Ty} {ty : Ty} (h : tya L ks = some ty) : ty.atoms = 1 + Ty.atomsL ks ∧ L ≠ [] := by
 unfold tya at h
 split at h
 ·split at h
  ·rename_i c; simp at h; subst h; rw [c.1]; simp [Ty.atoms, Ty.atomsL]
  ·split at h
   ·rename_i c; simp at h; subst h; rw [c.1]; simp [Ty.atoms, Ty.atomsL]
   ·split at h
    ·rename_i c; simp at h; subst h; rw [c.1]; simp [Ty.atoms, Ty.atomsL]
    ·simp at h
 ·split at h
  ·rename_i c; simp at h; subst h; rw [c.1]; simp [Ty.atoms, Ty.atomsL]
  ·split at h
   ·rename_i c; simp at h; subst h; rw [c.1]; simp [Ty.atoms, Ty.atomsL]
   ·simp at h
 ·simp at h
theorem text_size1 {t : Tree} (h : t.text.toList ≠ []) : t.size = 1 := by
 cases t with
 | atom s => rw [Tree.size]
 | node ps => exact absurd emp h
mutual
theorem ty_size : ∀ (t : Tree) (ty : Ty), t.ty = some ty → t.size = ty.atoms
 | .atom s, ty, h => by
  rw [Tree.ty] at h
  split at h
  ·simp at h; subst h; rw [Tree.size, Ty.atoms]
  ·simp at h
 | .node [], ty, h => by rw [Tree.ty] at h; simp at h
 | .node (q :: qs), ty, h => by
  rw [Tree.ty] at h
  cases hk : Tree.tys qs with
  | none => rw [hk] at h; simp at h
  | some ks =>
   rw [hk] at h; simp only at h
   have h1 := tyParts_atoms h
   have h2 := tys_size qs ks hk
   rw [Tree.size, Tree.sizes, h1.1, text_size1 h1.2, h2]
theorem tys_size : ∀ (ps : List Tree) (ks : List Ty), Tree.tys ps = some ks → Tree.sizes ps = Ty.atomsL ks
 | [], ks, h => by rw [Tree.tys] at h; simp at h; subst h; rfl
 | p :: ps, ks, h => by
  rw [Tree.tys] at h
  cases hp : p.ty with
  | none => rw [hp] at h; simp at h
  | some t =>
   rw [hp] at h; simp only at h
   cases hr : Tree.tys ps with
   | none => rw [hr] at h; simp at h
   | some ts =>
    rw [hr] at h; simp at h; subst h
    rw [Tree.sizes, Ty.atomsL, ty_size p t hp, tys_size ps ts hr]
end
def tyAtoms : Option Ty → Nat
 | some t => t.atoms
 | none => 0
mutual
def Tm.size : Tm → Nat
 | .mk _ _ _ bs ty ks => 1 + bs.length + tyAtoms ty + Tm.sizes ks
def Tm.sizes : List Tm → Nat
 | [] => 0
 | k :: ks => k.size + Tm.sizes ks
end
theorem tms (a b : List Tm) : Tm.sizes (a ++ b) = Tm.sizes a + Tm.sizes b := by
 induction a with
 | nil => simp [Tm.sizes]
 | cons x a ih => simp only [List.cons_append, Tm.sizes, ih]; omega
def Sg.isT : Sg → Bool
 | .A => true
 | .C => true
 | _ => false
def tyOnce (cs : List Sg) (st : St) : Prop := cs.countP Sg.isT = 0 ∨ (st.ty = none ∧ cs.countP Sg.isT ≤ 1)
def St.size (st : St) : Nat := st.binds.length + tyAtoms st.ty + Tm.sizes st.kids
theorem adx {s : ByteArray} {st st' : St} (h : addX s st = some st') : nameB s.toList = true ∧ st' = { st with binds := st.binds ++ [s] } := by
 unfold addX at h
 split at h
 ·rename_i c; simp at h; exact ⟨c.1, h.symm⟩
 ·simp at h
theorem adt {v : Bool} {t : Tree} {st st' : St} (h : addT v t st = some st') : ∃ ty, tyLim t = some ty ∧ st' = { st with ty := some ty } := by
 unfold addT at h
 split at h
 ·rename_i ty ht
  split at h
  ·simp at h; exact ⟨ty, ht, h.symm⟩
  ·simp at h
 ·simp at h
theorem adk {v : Bool} {k : Option Tm} {st st' : St} (h : addK v k st = some st') : ∃ m, k = some m ∧ st' = { st with kids := st.kids ++ [m] } := by
 unfold addK at h
 split at h
 ·rename_i m
  split at h
  ·simp at h; exact ⟨m, rfl, h.symm⟩
  ·simp at h
 ·simp at h
theorem tyl {t : Tree} {ty : Ty} (h : tyLim t = some ty) : t.ty = some ty ∧ t.size ≤ 12 := by
 unfold tyLim at h
 split at h
 ·exact ⟨h, ‹_›⟩
 ·simp at h
theorem tyo {c : Sg} {cs : List Sg} {st st' : St} (h : tyOnce (c :: cs) st) (h1 : c.isT = false → st'.ty = st.ty) : tyOnce cs st' := by
 unfold tyOnce at h ⊢
 rw [List.countP_cons] at h
 cases hc : c.isT with
 | false =>
  rw [hc] at h; rw [h1 hc]
  simpa using h
 | true =>
  rw [hc] at h
  simp at h
  exact Or.inl (by simpa using h.2)
theorem tyn {c : Sg} {cs : List Sg} {st : St} (h : tyOnce (c :: cs) st) (hc : c.isT = true) : st.ty = none := by
 unfold tyOnce at h
 rw [List.countP_cons, hc] at h
 simp at h
 exact h.1
theorem parts_size (ar : List ByteArray) : ∀ (cs : List Sg) (ps : List Tree) (st st' : St), (∀ p ∈ ps, ∀ ar m, p.tm ar = some m → p.size = m.size) → cs.length = ps.length → tyOnce cs st →
    Tree.parts ar cs ps st = some st' → st'.size = st.size + Tree.sizes ps
 | [], [], st, st', _, _, _, h => by simp [Tree.parts] at h; subst h; simp [Tree.sizes]
 | c :: cs, p :: ps, st, st', ih, hl, ho, h => by
  have ih' : ∀ p ∈ ps, ∀ ar m, p.tm ar = some m → p.size = m.size := fun q hq => ih q (List.mem_cons_of_mem _ hq)
  have hl' : cs.length = ps.length := by simpa using hl
  have go : ∀ st1, (c.isT = false → st1.ty = st.ty) → Tree.parts ar cs ps st1 = some st' → st1.size = st.size + p.size → st'.size = st.size + Tree.sizes (p :: ps) := by
   intro st1 h1 h2 h3
   rw [parts_size ar cs ps st1 st' ih' hl' (tyo ho h1) h2, h3, Tree.sizes]; omega
  cases c with
  | X =>
   rw [Tree.parts] at h
   cases h1 : addX p.text st with
   | none => rw [h1] at h; simp at h
   | some st1 =>
    rw [h1] at h
    have h2 := adx h1
    refine go st1 (fun _ => by rw [h2.2]) h ?_
    rw [text_size1 (nameB_ne h2.1), h2.2]; simp [St.size]; omega
  | A =>
   rw [Tree.parts] at h
   cases h1 : addT true p st with
   | none => rw [h1] at h; simp at h
   | some st1 =>
    rw [h1] at h
    obtain ⟨ty, ht, h2⟩ := adt h1
    refine go st1 (by simp [Sg.isT]) h ?_
    have := tyn ho rfl
    rw [h2, ty_size p ty (tyl ht).1]; simp [St.size, this, tyAtoms]; omega
  | C =>
   rw [Tree.parts] at h
   cases h1 : addT false p st with
   | none => rw [h1] at h; simp at h
   | some st1 =>
    rw [h1] at h
    obtain ⟨ty, ht, h2⟩ := adt h1
    refine go st1 (by simp [Sg.isT]) h ?_
    have := tyn ho rfl
    rw [h2, ty_size p ty (tyl ht).1]; simp [St.size, this, tyAtoms]; omega
  | V =>
   rw [Tree.parts] at h
   cases h1 : addK true (p.tm (ar ++ st.binds)) st with
   | none => rw [h1] at h; simp at h
   | some st1 =>
    rw [h1] at h
    obtain ⟨m, ht, h2⟩ := adk h1
    refine go st1 (fun _ => by rw [h2]) h ?_
    rw [h2, ih p (List.mem_cons_self ..) _ _ ht]; simp [St.size, tms, Tm.sizes]; omega
  | M =>
   rw [Tree.parts] at h
   cases h1 : addK false (p.tm (ar ++ st.binds)) st with
   | none => rw [h1] at h; simp at h
   | some st1 =>
    rw [h1] at h
    obtain ⟨m, ht, h2⟩ := adk h1
    refine go st1 (fun _ => by rw [h2]) h ?_
    rw [h2, ih p (List.mem_cons_self ..) _ _ ht]; simp [St.size, tms, Tm.sizes]; omega
theorem she (h : List UInt8) : tyOnce (shape h) St.none := by
 refine Or.inr ⟨rfl, ?_⟩
 rcases shp h with ⟨hs, he⟩ | ⟨hs, he⟩
 ·rw [he]; decide
 ·rcases he with he | he | he | he | he | he | he | he | he | he | he | he <;> (rw [he]; decide)
theorem tmn {ar : List ByteArray} {h : Tree} {ps : List Tree} {m : Tm} (ht : Tree.tm ar (.node (h :: ps)) = some m) :
    ∃ st, shape h.text.toList ≠ [] ∧ (shape h.text.toList).length = ps.length ∧ Tree.parts ar (shape h.text.toList) ps St.none = some st ∧ m = .mk h.text ByteArray.empty 0 st.binds st.ty st.kids := by
 rw [Tree.tm] at ht
 split at ht
 ·simp at ht
 ·rename_i hc
  have hl : (shape h.text.toList).length = ps.length := by
   rcases Nat.decEq (shape h.text.toList).length ps.length with h | h
   ·exact absurd (Or.inr h) hc
   ·exact h
  split at ht
  ·rename_i st hq
   simp at ht
   exact ⟨st, fun e => hc (Or.inl e), hl, hq, ht.symm⟩
  ·simp at ht
theorem shape_ne {h : List UInt8} (hs : shape h ≠ []) : h ≠ [] := by intro e; subst e; exact hs rfl
theorem tm_size (t : Tree) (ar : List ByteArray) (m : Tm) (h : t.tm ar = some m) : t.size = m.size := by
 match t with
 | .atom s =>
  rw [Tree.tm, atomTm] at h
  split at h
  ·simp at h; subst h; rfl
  ·split at h
   ·simp at h; subst h; rfl
   ·simp at h
 | .node [] => rw [Tree.tm] at h; simp at h
 | .node (q :: ps) =>
  obtain ⟨st, h1, h2, h3, rfl⟩ := tmn h
  have := parts_size ar _ ps St.none st (fun p hp ar m => tm_size p ar m) h2 (she _) h3
  rw [Tree.size, Tree.sizes, text_size1 (shape_ne h1), Tm.size]
  have e0 : St.none.size = 0 := rfl
  rw [e0] at this
  simp only [St.size] at this
  omega
termination_by t
decreasing_by
 have := List.sizeOf_lt_of_mem hp
 simp; omega
def tyText : Option Ty → List UInt8
 | some t => t.write
 | none => []
def weave : List Sg → List ByteArray → Option Ty → List (List UInt8) → List UInt8
 | [], _, _, _ => []
 | .X :: cs, b :: bs, ty, ks => 32 :: (b.data.toList ++ weave cs bs ty ks)
 | .X :: _, [], _, _ => []
 | .A :: cs, bs, ty, ks => 32 :: (tyText ty ++ weave cs bs ty ks)
 | .C :: cs, bs, ty, ks => 32 :: (tyText ty ++ weave cs bs ty ks)
 | .V :: cs, bs, ty, k :: ks => 32 :: (k ++ weave cs bs ty ks)
 | .V :: _, _, _, [] => []
 | .M :: cs, bs, ty, k :: ks => 32 :: (k ++ weave cs bs ty ks)
 | .M :: _, _, _, [] => []
mutual
def Tm.write : Tm → List UInt8
 | .mk hd a _ bs ty ks => if a.toList = [] then 40 :: (hd.data.toList ++ (weave (shape hd.toList) bs ty (Tm.writes ks) ++ [41])) else a.data.toList
def Tm.writes : List Tm → List (List UInt8)
 | [] => []
 | k :: ks => k.write :: Tm.writes ks
end
theorem text_write {t : Tree} (h : t.text.toList ≠ []) : t.write = t.text.data.toList := by
 cases t with
 | atom s => rw [Tree.write]; rfl
 | node ps => exact absurd emp h
theorem parts_keep (ar : List ByteArray) : ∀ (cs : List Sg) (ps : List Tree) (st st' : St), Tree.parts ar cs ps st = some st' → cs.countP Sg.isT = 0 → st'.ty = st.ty
 | [], _, st, st', h, _ => by simp [Tree.parts] at h; rw [← h]
 | c :: cs, [], st, st', h, _ => by cases c <;> simp [Tree.parts] at h
 | c :: cs, p :: ps, st, st', h, hc => by
  rw [List.countP_cons] at hc
  cases c with
  | X =>
   rw [Tree.parts] at h
   cases h1 : addX p.text st with
   | none => rw [h1] at h; simp at h
   | some st1 => rw [h1] at h; rw [parts_keep ar cs ps st1 st' h (Nat.add_eq_zero_iff.1 hc).1, (adx h1).2]
  | A => simp [Sg.isT] at hc
  | C => simp [Sg.isT] at hc
  | V =>
   rw [Tree.parts] at h
   cases h1 : addK true (p.tm (ar ++ st.binds)) st with
   | none => rw [h1] at h; simp at h
   | some st1 =>
    rw [h1] at h; obtain ⟨m, _, h2⟩ := adk h1
    rw [parts_keep ar cs ps st1 st' h (Nat.add_eq_zero_iff.1 hc).1, h2]
  | M =>
   rw [Tree.parts] at h
   cases h1 : addK false (p.tm (ar ++ st.binds)) st with
   | none => rw [h1] at h; simp at h
   | some st1 =>
    rw [h1] at h; obtain ⟨m, _, h2⟩ := adk h1
    rw [parts_keep ar cs ps st1 st' h (Nat.add_eq_zero_iff.1 hc).1, h2]
theorem tyOnce_T {c : Sg} {cs : List Sg} {st : St} (h : tyOnce (c :: cs) st) (hc : c.isT = true) : cs.countP Sg.isT = 0 := by
 unfold tyOnce at h
 rw [List.countP_cons, hc] at h
 simp at h
 simpa using h.2
theorem pat (ar : List ByteArray) : ∀ (cs : List Sg) (ps : List Tree) (st st' : St), (∀ p ∈ ps, ∀ ar m, p.tm ar = some m → m.write = p.write) → cs.length = ps.length → tyOnce cs st →
    Tree.parts ar cs ps st = some st' → ∃ nb nk, st'.binds = st.binds ++ nb ∧ st'.kids = st.kids ++ nk ∧ Tree.writes ps = weave cs nb st'.ty (Tm.writes nk)
 | [], [], st, st', _, _, _, h => by simp [Tree.parts] at h; subst h; exact ⟨[], [], by simp, by simp, rfl⟩
 | c :: cs, p :: ps, st, st', ih, hl, ho, h => by
  have ih' : ∀ p ∈ ps, ∀ ar m, p.tm ar = some m → m.write = p.write := fun q hq => ih q (List.mem_cons_of_mem _ hq)
  have hl' : cs.length = ps.length := by simpa using hl
  cases c with
  | X =>
   rw [Tree.parts] at h
   cases h1 : addX p.text st with
   | none => rw [h1] at h; simp at h
   | some st1 =>
    rw [h1] at h
    have h2 := adx h1
    obtain ⟨nb, nk, e1, e2, e3⟩ := pat ar cs ps st1 st' ih' hl' (tyo ho (fun _ => by rw [h2.2])) h
    refine ⟨p.text :: nb, nk, by rw [e1, h2.2]; simp, by rw [e2, h2.2], ?_⟩
    rw [Tree.writes, e3, text_write (nameB_ne h2.1)]; rfl
  | A =>
   rw [Tree.parts] at h
   cases h1 : addT true p st with
   | none => rw [h1] at h; simp at h
   | some st1 =>
    rw [h1] at h
    obtain ⟨ty, ht, h2⟩ := adt h1
    obtain ⟨nb, nk, e1, e2, e3⟩ := pat ar cs ps st1 st' ih' hl' (tyo ho (by simp [Sg.isT])) h
    have e4 := parts_keep ar cs ps st1 st' h (tyOnce_T ho rfl)
    refine ⟨nb, nk, by rw [e1, h2], by rw [e2, h2], ?_⟩
    rw [Tree.writes, e3, ty_write p ty (tyl ht).1, e4, h2]; rfl
  | C =>
   rw [Tree.parts] at h
   cases h1 : addT false p st with
   | none => rw [h1] at h; simp at h
   | some st1 =>
    rw [h1] at h
    obtain ⟨ty, ht, h2⟩ := adt h1
    obtain ⟨nb, nk, e1, e2, e3⟩ := pat ar cs ps st1 st' ih' hl' (tyo ho (by simp [Sg.isT])) h
    have e4 := parts_keep ar cs ps st1 st' h (tyOnce_T ho rfl)
    refine ⟨nb, nk, by rw [e1, h2], by rw [e2, h2], ?_⟩
    rw [Tree.writes, e3, ty_write p ty (tyl ht).1, e4, h2]; rfl
  | V =>
   rw [Tree.parts] at h
   cases h1 : addK true (p.tm (ar ++ st.binds)) st with
   | none => rw [h1] at h; simp at h
   | some st1 =>
    rw [h1] at h
    obtain ⟨m, ht, h2⟩ := adk h1
    obtain ⟨nb, nk, e1, e2, e3⟩ := pat ar cs ps st1 st' ih' hl' (tyo ho (fun _ => by rw [h2])) h
    refine ⟨nb, m :: nk, by rw [e1, h2], by rw [e2, h2]; simp, ?_⟩
    rw [Tree.writes, e3, ← ih p (List.mem_cons_self ..) _ _ ht]; rfl
  | M =>
   rw [Tree.parts] at h
   cases h1 : addK false (p.tm (ar ++ st.binds)) st with
   | none => rw [h1] at h; simp at h
   | some st1 =>
    rw [h1] at h
    obtain ⟨m, ht, h2⟩ := adk h1
    obtain ⟨nb, nk, e1, e2, e3⟩ := pat ar cs ps st1 st' ih' hl' (tyo ho (fun _ => by rw [h2])) h
    refine ⟨nb, m :: nk, by rw [e1, h2], by rw [e2, h2]; simp, ?_⟩
    rw [Tree.writes, e3, ← ih p (List.mem_cons_self ..) _ _ ht]; rfl
theorem tm_write (t : Tree) (ar : List ByteArray) (m : Tm) (h : t.tm ar = some m) : m.write = t.write := by
 match t with
 | .atom s =>
  rw [Tree.tm, atomTm] at h
  split at h
  ·rename_i c; simp at h; subst h; rw [Tm.write, if_neg (by rcases c with c | c <;> rw [c] <;> simp), Tree.write]
  ·split at h
   ·rename_i c; simp at h; subst h; rw [Tm.write, if_neg (nameB_ne c), Tree.write]
   ·simp at h
 | .node [] => rw [Tree.tm] at h; simp at h
 | .node (q :: ps) =>
  obtain ⟨st, h1, h2, h3, rfl⟩ := tmn h
  obtain ⟨nb, nk, e1, e2, e3⟩ := pat ar _ ps St.none st (fun p hp ar m => tm_write p ar m) h2 (she _) h3
  have e1' : st.binds = nb := by rw [e1]; rfl
  have e2' : st.kids = nk := by rw [e2]; rfl
  rw [Tm.write, if_pos emp, Tree.write, text_write (shape_ne h1), e3, e1', e2']
termination_by t
decreasing_by
 have := List.sizeOf_lt_of_mem hp
 simp; omega
theorem depthR_neg (s : List UInt8) : ∀ (l : List ByteArray) (n : Nat), decide (depthR s l n = -1) = !hasB l s
 | [], n => by simp [depthR, hasB]
 | x :: l, n => by
  rw [depthR]
  by_cases h : x.toList = s
  ·have : ¬ ((n : Int) = -1) := by omega
   simp [h, hasB, this]
  ·have ih := depthR_neg s l (n + 1)
   have h' : ¬ s = x.toList := fun e => h e.symm
   rw [if_neg h, ih]; simp [hasB, h']
theorem depthIn_neg (s : List UInt8) (l : List ByteArray) : decide (depthIn s l = -1) = !hasB l s := by
 unfold depthIn; rw [depthR_neg]; simp [hasB]
mutual
def Tm.free : Tm → List ByteArray
 | .mk hd a d _ _ ks => if hd.toList = [110, 97, 109, 101] ∧ d = -1 then [a] else Tm.frees ks
def Tm.frees : List Tm → List ByteArray
 | [] => []
 | k :: ks => k.free ++ Tm.frees ks
end
theorem frees_append (a b : List Tm) : Tm.frees (a ++ b) = Tm.frees a ++ Tm.frees b := by
 induction a with
 | nil => rfl
 | cons x a ih => simp only [List.cons_append, Tm.frees, ih, List.append_assoc]
def Sg.isK : Sg → Bool
 | .V => true
 | .M => true
 | _ => false
mutual
def Tree.free (bd : List ByteArray) : Tree → List ByteArray
 | .atom s => if nameB s.toList = true ∧ hasB bd s.toList = false then [s] else []
 | .node [] => []
 | .node (h :: ps) => Tree.frees bd (xsOf (shape h.text.toList) ps) (shape h.text.toList) ps
def Tree.frees (bd xs : List ByteArray) : List Sg → List Tree → List ByteArray
 | [], _ => []
 | _ :: _, [] => []
 | c :: cs, p :: ps => (if c.isK = true then (if cs = [] then Tree.free (bd ++ xs) p else Tree.free bd p) else []) ++ Tree.frees bd xs cs ps
end
def goodSh : List Sg → Bool → Bool
 | [], _ => true
 | .X :: cs, _ => goodSh cs true
 | .A :: cs, b => goodSh cs b
 | .C :: cs, b => goodSh cs b
 | .V :: cs, b => (cs.isEmpty || !b) && goodSh cs b
 | .M :: cs, b => (cs.isEmpty || !b) && goodSh cs b
theorem shape_good (h : List UInt8) : goodSh (shape h) false = true := by
 rcases shp h with ⟨hs, he⟩ | ⟨hs, he⟩
 ·rw [he]; decide
 ·rcases he with he | he | he | he | he | he | he | he | he | he | he | he <;> (rw [he]; decide)
theorem parts_free (ar : List ByteArray) (xs : List ByteArray) : ∀ (cs : List Sg) (ps : List Tree) (st st' : St) (b : Bool), (∀ p ∈ ps, ∀ ar m, p.tm ar = some m → m.free = p.free ar) → cs.length = ps.length → goodSh cs b = true → (b = false → st.binds = []) → xs = st.binds ++ xsOf cs ps →
    Tree.parts ar cs ps st = some st' → Tm.frees st'.kids = Tm.frees st.kids ++ Tree.frees ar xs cs ps
 | [], [], st, st', b, _, _, _, _, _, h => by simp [Tree.parts] at h; subst h; simp [Tree.frees]
 | c :: cs, p :: ps, st, st', b, ih, hl, hg, hb, hx, h => by
  have ih' : ∀ p ∈ ps, ∀ ar m, p.tm ar = some m → m.free = p.free ar := fun q hq => ih q (List.mem_cons_of_mem _ hq)
  have hl' : cs.length = ps.length := by simpa using hl
  have kid : ∀ v, xsOf (c :: cs) (p :: ps) = xsOf cs ps → c.isK = true → ((cs.isEmpty || !b) && goodSh cs b) = true → ∀ st1, addK v (p.tm (ar ++ st.binds)) st = some st1 → Tree.parts ar cs ps st1 = some st' → Tm.frees st'.kids = Tm.frees st.kids ++ Tree.frees ar xs (c :: cs) (p :: ps) := by
   intro v hxo hk hgg st1 h1 h2
   obtain ⟨m, ht, h3⟩ := adk h1
   simp only [Bool.and_eq_true, Bool.or_eq_true] at hgg
   have hb1 : st1.binds = st.binds := by rw [h3]
   rw [parts_free ar xs cs ps st1 st' b ih' hl' hgg.2 (fun e => by rw [hb1]; exact hb e) (by rw [hb1, hx, hxo]) h2, h3]
   have hf := ih p (List.mem_cons_self ..) _ _ ht
   simp only [frees_append, Tm.frees, List.append_nil, Tree.frees, hk, if_true, List.append_assoc]
   rw [hf]
   congr 2
   by_cases hc : cs = []
   ·subst hc
    rw [if_pos rfl]
    match ps, hl' with
    | [], _ => rw [hx, hxo]; simp [xsOf]
   ·rw [if_neg hc]
    have : b = false := by
     rcases hgg.1 with h | h
     ·simp at h; exact absurd h hc
     ·simpa using h
    rw [hb this, List.append_nil]
  cases c with
  | X =>
   rw [Tree.parts] at h
   cases h1 : addX p.text st with
   | none => rw [h1] at h; simp at h
   | some st1 =>
    rw [h1] at h
    have h2 := adx h1
    rw [parts_free ar xs cs ps st1 st' true ih' hl' (by simpa [goodSh] using hg) (by simp) (by rw [hx, h2.2]; simp [xsOf]) h, h2.2]
    simp [Tree.frees, Sg.isK]
  | A =>
   rw [Tree.parts] at h
   cases h1 : addT true p st with
   | none => rw [h1] at h; simp at h
   | some st1 =>
    rw [h1] at h
    obtain ⟨ty, ht, h2⟩ := adt h1
    rw [parts_free ar xs cs ps st1 st' b ih' hl' (by simpa [goodSh] using hg) (fun e => by rw [h2]; exact hb e) (by rw [hx, h2]; simp [xsOf]) h, h2]
    simp [Tree.frees, Sg.isK]
  | C =>
   rw [Tree.parts] at h
   cases h1 : addT false p st with
   | none => rw [h1] at h; simp at h
   | some st1 =>
    rw [h1] at h
    obtain ⟨ty, ht, h2⟩ := adt h1
    rw [parts_free ar xs cs ps st1 st' b ih' hl' (by simpa [goodSh] using hg) (fun e => by rw [h2]; exact hb e) (by rw [hx, h2]; simp [xsOf]) h, h2]
    simp [Tree.frees, Sg.isK]
  | V =>
   rw [Tree.parts] at h
   cases h1 : addK true (p.tm (ar ++ st.binds)) st with
   | none => rw [h1] at h; simp at h
   | some st1 => rw [h1] at h; exact kid true (by simp [xsOf]) rfl (by simpa only [goodSh] using hg) st1 h1 h
  | M =>
   rw [Tree.parts] at h
   cases h1 : addK false (p.tm (ar ++ st.binds)) st with
   | none => rw [h1] at h; simp at h
   | some st1 => rw [h1] at h; exact kid false (by simp [xsOf]) rfl (by simpa only [goodSh] using hg) st1 h1 h
theorem strName_toList : strName.toList = [110, 97, 109, 101] := by rw [Go.ByteArray.toList_eq]; rfl
theorem stb : strBit.toList = [98, 105, 116] := by rw [Go.ByteArray.toList_eq]; rfl
theorem tm_free (t : Tree) (ar : List ByteArray) (m : Tm) (h : t.tm ar = some m) : m.free = t.free ar := by
 match t with
 | .atom s =>
  rw [Tree.tm, atomTm] at h
  split at h
  ·rename_i c; simp at h; subst h
   rw [Tm.free, if_neg (by rw [stb]; simp), Tree.free, if_neg]
   ·rfl
   ·rcases c with c | c <;> (rw [c]; simp [nameB])
  ·split at h
   ·rename_i c; simp at h; subst h
    rw [Tm.free, Tree.free]
    have := depthIn_neg s.toList ar
    by_cases hh : hasB ar s.toList = true
    ·rw [hh] at this; simp at this
     rw [if_neg (fun e => this e.2), if_neg (by simp [hh])]; rfl
    ·have h2 : hasB ar s.toList = false := by simpa using hh
     rw [h2] at this; simp at this
     rw [if_pos ⟨strName_toList, this⟩, if_pos ⟨c, h2⟩]
   ·simp at h
 | .node [] => rw [Tree.tm] at h; simp at h
 | .node (q :: ps) =>
  obtain ⟨st, h1, h2, h3, rfl⟩ := tmn h
  have := parts_free ar (xsOf (shape q.text.toList) ps) _ ps St.none st false (fun p hp ar m => tm_free p ar m) h2 (shape_good _) (fun _ => rfl) (by simp [St.none]) h3
  rw [Tm.free, if_neg (fun e => h1 (by rw [e.1]; rfl)), Tree.free, this]
  simp [St.none, Tm.frees]
termination_by t
decreasing_by
 have := List.sizeOf_lt_of_mem hp
 simp; omega
def Ty.wf : Ty → Bool
 | .bit => true
 | .pair a b => a.wf && b.wf && a.isVal && b.isVal
 | .thunk c => c.wf && !c.isVal
 | .ret a => a.wf && a.isVal
 | .fn a c => a.wf && c.wf && a.isVal && !c.isVal
 | .choice c d => c.wf && d.wf && !c.isVal && !d.isVal
def Ty.tree : Ty → Tree
 | .bit => .atom ⟨#[98]⟩
 | .pair a b => .node [.atom ⟨#[42]⟩, a.tree, b.tree]
 | .thunk c => .node [.atom ⟨#[117]⟩, c.tree]
 | .ret a => .node [.atom ⟨#[102]⟩, a.tree]
 | .fn a c => .node [.atom ⟨#[62]⟩, a.tree, c.tree]
 | .choice c d => .node [.atom ⟨#[38]⟩, c.tree, d.tree]
theorem tree_ty : ∀ t : Ty, t.wf = true → t.tree.ty = some t
 | .bit, _ => by rw [Ty.tree, Tree.ty, if_pos (by rw [Go.ByteArray.toList_eq])]
 | .pair a b, h => by
  simp only [Ty.wf, Bool.and_eq_true] at h
  have h1 := tree_ty a h.1.1.1
  have h2 := tree_ty b h.1.1.2
  simp [Ty.tree, Tree.ty, Tree.tys, h1, h2, Tree.text, Go.ByteArray.toList_eq, tya, h.1.2, h.2]
 | .thunk c, h => by
  simp only [Ty.wf, Bool.and_eq_true, Bool.not_eq_true'] at h
  have h1 := tree_ty c h.1
  simp [Ty.tree, Tree.ty, Tree.tys, h1, Tree.text, Go.ByteArray.toList_eq, tya, h.2]
 | .ret a, h => by
  simp only [Ty.wf, Bool.and_eq_true] at h
  have h1 := tree_ty a h.1
  simp [Ty.tree, Tree.ty, Tree.tys, h1, Tree.text, Go.ByteArray.toList_eq, tya, h.2]
 | .fn a c, h => by
  simp only [Ty.wf, Bool.and_eq_true, Bool.not_eq_true'] at h
  have h1 := tree_ty a h.1.1.1
  have h2 := tree_ty c h.1.1.2
  simp [Ty.tree, Tree.ty, Tree.tys, h1, h2, Tree.text, Go.ByteArray.toList_eq, tya, h.1.2, h.2]
 | .choice c d, h => by
  simp only [Ty.wf, Bool.and_eq_true, Bool.not_eq_true'] at h
  have h1 := tree_ty c h.1.1.1
  have h2 := tree_ty d h.1.1.2
  simp [Ty.tree, Tree.ty, Tree.tys, h1, h2, Tree.text, Go.ByteArray.toList_eq, tya, h.1.2, h.2]
theorem tyr : ∀ t : Ty, t.tree.write = t.write
 | .bit => rfl
 | .pair a b => by simp [Ty.tree, Tree.write, Tree.writes, Ty.write, tyr a, tyr b]
 | .thunk c => by simp [Ty.tree, Tree.write, Tree.writes, Ty.write, tyr c]
 | .ret a => by simp [Ty.tree, Tree.write, Tree.writes, Ty.write, tyr a]
 | .fn a c => by simp [Ty.tree, Tree.write, Tree.writes, Ty.write, tyr a, tyr c]
 | .choice c d => by simp [Ty.tree, Tree.write, Tree.writes, Ty.write, tyr c, tyr d]
theorem tyi : ∀ t : Ty, t.tree.size = t.atoms
 | .bit => rfl
 | .pair a b => by simp [Ty.tree, Tree.size, Tree.sizes, Ty.atoms, tyi a, tyi b]
 | .thunk c => by simp [Ty.tree, Tree.size, Tree.sizes, Ty.atoms, tyi c]
 | .ret a => by simp [Ty.tree, Tree.size, Tree.sizes, Ty.atoms, tyi a]
 | .fn a c => by simp [Ty.tree, Tree.size, Tree.sizes, Ty.atoms, tyi a, tyi c]
 | .choice c d => by simp [Ty.tree, Tree.size, Tree.sizes, Ty.atoms, tyi c, tyi d]
theorem tyw : ∀ t : Ty, t.write.length ≤ 5 * t.atoms
 | .bit => by simp [Ty.write, Ty.atoms]
 | .pair a b => by have := tyw a; have := tyw b; simp [Ty.write, Ty.atoms]; omega
 | .thunk c => by have := tyw c; simp [Ty.write, Ty.atoms]; omega
 | .ret a => by have := tyw a; simp [Ty.write, Ty.atoms]; omega
 | .fn a c => by have := tyw a; have := tyw c; simp [Ty.write, Ty.atoms]; omega
 | .choice c d => by have := tyw c; have := tyw d; simp [Ty.write, Ty.atoms]; omega
theorem tyParts_wf {L : List UInt8} {ks : List Ty} {ty : Ty} (h : tya L ks = some ty) (hk : ∀ k ∈ ks, k.wf = true) : ty.wf = true := by
 unfold tya at h
 split at h
 ·rename_i a b
  have ha := hk a (by simp)
  have hb := hk b (by simp)
  split at h
  ·rename_i c; simp at h; subst h; simp [Ty.wf, ha, hb, c.2.1, c.2.2]
  ·split at h
   ·rename_i c; simp at h; subst h; simp [Ty.wf, ha, hb, c.2.1, c.2.2]
   ·split at h
    ·rename_i c; simp at h; subst h; simp [Ty.wf, ha, hb, c.2.1, c.2.2]
    ·simp at h
 ·rename_i a
  have ha := hk a (by simp)
  split at h
  ·rename_i c; simp at h; subst h; simp [Ty.wf, ha, c.2]
  ·split at h
   ·rename_i c; simp at h; subst h; simp [Ty.wf, ha, c.2]
   ·simp at h
 ·simp at h
mutual
theorem ty_wf : ∀ (t : Tree) (ty : Ty), t.ty = some ty → ty.wf = true
 | .atom s, ty, h => by
  rw [Tree.ty] at h
  split at h
  ·simp at h; subst h; rfl
  ·simp at h
 | .node [], ty, h => by rw [Tree.ty] at h; simp at h
 | .node (q :: qs), ty, h => by
  rw [Tree.ty] at h
  cases hk : Tree.tys qs with
  | none => rw [hk] at h; simp at h
  | some ks => rw [hk] at h; exact tyParts_wf h (tys_wf qs ks hk)
theorem tys_wf : ∀ (ps : List Tree) (ks : List Ty), Tree.tys ps = some ks → ∀ k ∈ ks, k.wf = true
 | [], ks, h => by rw [Tree.tys] at h; simp at h; subst h; simp
 | p :: ps, ks, h => by
  rw [Tree.tys] at h
  cases hp : p.ty with
  | none => rw [hp] at h; simp at h
  | some t =>
   rw [hp] at h; simp only at h
   cases hr : Tree.tys ps with
   | none => rw [hr] at h; simp at h
   | some ts =>
    rw [hr] at h; simp at h; subst h
    intro k hk
    rcases List.mem_cons.1 hk with rfl | hk
    ·exact ty_wf p _ hp
    ·exact tys_wf ps ts hr k hk
end
theorem tree_wk : ∀ t : Ty, t.tree.wk
 | .bit => by rw [Ty.tree, Tree.wk]; exact ⟨by decide, by decide⟩
 | .pair a b => by rw [Ty.tree, Tree.wk, Tree.wks, Tree.wks, Tree.wks, Tree.wks, Tree.wk]; exact ⟨by simp, ⟨by decide, by decide⟩, tree_wk a, tree_wk b, trivial⟩
 | .thunk c => by rw [Ty.tree, Tree.wk, Tree.wks, Tree.wks, Tree.wks, Tree.wk]; exact ⟨by simp, ⟨by decide, by decide⟩, tree_wk c, trivial⟩
 | .ret a => by rw [Ty.tree, Tree.wk, Tree.wks, Tree.wks, Tree.wks, Tree.wk]; exact ⟨by simp, ⟨by decide, by decide⟩, tree_wk a, trivial⟩
 | .fn a c => by rw [Ty.tree, Tree.wk, Tree.wks, Tree.wks, Tree.wks, Tree.wks, Tree.wk]; exact ⟨by simp, ⟨by decide, by decide⟩, tree_wk a, tree_wk c, trivial⟩
 | .choice c d => by rw [Ty.tree, Tree.wk, Tree.wks, Tree.wks, Tree.wks, Tree.wks, Tree.wk]; exact ⟨by simp, ⟨by decide, by decide⟩, tree_wk c, tree_wk d, trivial⟩
theorem ato : ∀ t : Ty, 1 ≤ t.atoms
 | .bit => Nat.le_refl _
 | .pair a b => by rw [Ty.atoms]; omega
 | .thunk c => by rw [Ty.atoms]; omega
 | .ret a => by rw [Ty.atoms]; omega
 | .fn a c => by rw [Ty.atoms]; omega
 | .choice c d => by rw [Ty.atoms]; omega
theorem tree_dp : ∀ t : Ty, t.tree.dp ≤ t.atoms
 | .bit => by rw [Ty.tree, Tree.dp, Ty.atoms]; exact Nat.le_refl _
 | .pair a b => by
  have := tree_dp a; have := tree_dp b; have := ato a; have := ato b
  rw [Ty.tree, Tree.dp, Tree.dps, Tree.dps, Tree.dps, Tree.dps, Tree.dp, Ty.atoms]
  exact Nat.add_le_add_left (Nat.max_le.2 ⟨by omega, Nat.max_le.2 ⟨by omega, Nat.max_le.2 ⟨by omega, Nat.zero_le _⟩⟩⟩) 1
 | .thunk c => by
  have := tree_dp c; have := ato c
  rw [Ty.tree, Tree.dp, Tree.dps, Tree.dps, Tree.dps, Tree.dp, Ty.atoms]
  exact Nat.add_le_add_left (Nat.max_le.2 ⟨by omega, Nat.max_le.2 ⟨by omega, Nat.zero_le _⟩⟩) 1
 | .ret c => by
  have := tree_dp c; have := ato c
  rw [Ty.tree, Tree.dp, Tree.dps, Tree.dps, Tree.dps, Tree.dp, Ty.atoms]
  exact Nat.add_le_add_left (Nat.max_le.2 ⟨by omega, Nat.max_le.2 ⟨by omega, Nat.zero_le _⟩⟩) 1
 | .fn a b => by
  have := tree_dp a; have := tree_dp b; have := ato a; have := ato b
  rw [Ty.tree, Tree.dp, Tree.dps, Tree.dps, Tree.dps, Tree.dps, Tree.dp, Ty.atoms]
  exact Nat.add_le_add_left (Nat.max_le.2 ⟨by omega, Nat.max_le.2 ⟨by omega, Nat.max_le.2 ⟨by omega, Nat.zero_le _⟩⟩⟩) 1
 | .choice a b => by
  have := tree_dp a; have := tree_dp b; have := ato a; have := ato b
  rw [Ty.tree, Tree.dp, Tree.dps, Tree.dps, Tree.dps, Tree.dps, Tree.dp, Ty.atoms]
  exact Nat.add_le_add_left (Nat.max_le.2 ⟨by omega, Nat.max_le.2 ⟨by omega, Nat.max_le.2 ⟨by omega, Nat.zero_le _⟩⟩⟩) 1
def tyV : Option Ty → Value
 | some t => t.val
 | none => .nilIface
inductive NIn (w : World) (S : Nat → Prop) : Tm → Nat → Prop
 | mk (hd a : ByteArray) (d : Int) (bs : List ByteArray) (ty : Option Ty) (ks : List Tm) (b : Nat) (bp : Option Addr) (bl bc : Nat) (kp : Option Addr) (kl kc : Nat) (A : Nat → Nat) (hS : S b)
     (hb : w.heap[b]? = some (.cells #[.string hd, .string a, .int .i64 d, .slice bp bl bc, tyV ty, .slice kp kl kc] 70 (0, 0)))
     (hbl : bs.length = bl) (hkl : ks.length = kl) (hbn : bl ≤ bc ∧ kl ≤ kc) (hbv : RIn w S bp (bs.map Value.string)) (hkv : RIn w S kp (ptrs A kl))
     (hks : ∀ i k, ks[i]? = some k → NIn w S k (A i)) : NIn w S (.mk hd a d bs ty ks) b
theorem NIn.keep {w w' : World} {S S' : Nat → Prop} {m : Tm} {b : Nat} (h : NIn w S m b) (hb : ∀ k, S k → k < w.heap.size → w'.heap[k]? = w.heap[k]?) (hS : ∀ k, S k → k < w.heap.size → S' k) : NIn w' S' m b := by
 induction h with
 | mk hd a d bs ty ks b bp bl bc kp kl kc A hS0 hb0 hbl hkl hbn hbv hkv hks ih =>
  have hlt := lt_of_block hb0
  exact .mk hd a d bs ty ks b bp bl bc kp kl kc A (hS b hS0 hlt) ((hb b hS0 hlt).trans hb0) hbl hkl hbn (hbv.keep hb hS) (hkv.keep hb hS) ih
theorem NIn.lt {w : World} {S : Nat → Prop} {m : Tm} {b : Nat} (h : NIn w S m b) : S b ∧ b < w.heap.size := by
 cases h with
 | mk hd a d bs ty ks b bp bl bc kp kl kc A hS0 hb0 _ _ _ _ _ _ => exact ⟨hS0, lt_of_block hb0⟩
theorem ces {w : World} {b : Nat} {x0 x1 x2 x3 x4 x5 : Value} {t : TypeId} (h : w.heap[b]? = some (.cells #[x0, x1, x2, x3, x4, x5] t (0, 0))) :
    w.cell? ⟨b, 0, none⟩ = some x0 ∧ w.cell? ⟨b, 1, none⟩ = some x1 ∧ w.cell? ⟨b, 2, none⟩ = some x2 ∧ w.cell? ⟨b, 3, none⟩ = some x3 ∧ w.cell? ⟨b, 4, none⟩ = some x4 ∧ w.cell? ⟨b, 5, none⟩ = some x5 ∧
    w.frozen? ⟨b, 3, none⟩ = false ∧ w.frozen? ⟨b, 4, none⟩ = false ∧ w.frozen? ⟨b, 5, none⟩ = false := by
 simp [World.cell?, World.frozen?, h]
theorem six_setCell {w : World} {b : Nat} {x0 x1 x2 x3 x4 x5 u : Value} {t : TypeId} (h : w.heap[b]? = some (.cells #[x0, x1, x2, x3, x4, x5] t (0, 0))) :
    (w.setCell ⟨b, 3, none⟩ u).heap[b]? = some (.cells #[x0, x1, x2, u, x4, x5] t (0, 0)) ∧ (w.setCell ⟨b, 4, none⟩ u).heap[b]? = some (.cells #[x0, x1, x2, x3, u, x5] t (0, 0)) ∧ (w.setCell ⟨b, 5, none⟩ u).heap[b]? = some (.cells #[x0, x1, x2, x3, x4, u] t (0, 0)) := by
 have hlt := lt_of_block h
 have h' : w.heap[b] = .cells #[x0, x1, x2, x3, x4, x5] t (0, 0) := by simpa [Array.getElem?_eq_getElem hlt] using h
 refine ⟨?_, ?_, ?_⟩
 ·show (w.heap.modify b _)[b]? = _
  rw [Array.getElem?_eq_getElem (by simpa using hlt), Array.getElem_modify_self, h']; rfl
 ·show (w.heap.modify b _)[b]? = _
  rw [Array.getElem?_eq_getElem (by simpa using hlt), Array.getElem_modify_self, h']; rfl
 ·show (w.heap.modify b _)[b]? = _
  rw [Array.getElem?_eq_getElem (by simpa using hlt), Array.getElem_modify_self, h']; rfl
def TmPost (o : Option Tm) (w : World) (e : Ending) (w' : World) : Prop :=
 Below w.heap.size w w' ∧ match o with
  | some m => ∃ a : Nat, e = .returned (.tuple #[.pointer (some ⟨a, 0, none⟩), .bool true]) ∧ NIn w' (fun k => w.heap.size ≤ k) m a
  | none => e = .returned (.tuple #[.pointer none, .bool false])
theorem TmPost.none {w w' : World} {e : Ending} (h : TmPost Option.none w e w') : e = .returned (.tuple #[.pointer Option.none, .bool false]) ∧ Below w.heap.size w w' := ⟨h.2, h.1⟩
theorem TmPost.some {w w' : World} {e : Ending} {m : Tm} (h : TmPost (Option.some m) w e w') : ∃ a : Nat, e = .returned (.tuple #[.pointer (Option.some ⟨a, 0, Option.none⟩), .bool true]) ∧ Below w.heap.size w w' ∧ NIn w' (fun k => w.heap.size ≤ k) m a :=
 let ⟨hb, a, he, hn⟩ := h; ⟨a, he, hb, hn⟩
theorem leaf_in {w : World} {hd a : ByteArray} {d : Int} {b : Nat} (hb : w.heap[b]? = some (.cells #[.string hd, .string a, .int .i64 d, .slice none 0 0, .nilIface, .slice none 0 0] 70 (0, 0))) {S : Nat → Prop} (hS : S b) : NIn w S (.mk hd a d [] none []) b :=
 .mk hd a d [] none [] b none 0 0 none 0 0 (fun _ => 0) hS hb rfl rfl ⟨Nat.le_refl _, Nat.le_refl _⟩ (fun i v h => by simp at h) (fun i v h => by simp [ptrs] at h) (fun i k h => by simp at h)
theorem sha (h : List UInt8) : (shape h).length ≤ 4 := by
 rcases shp h with ⟨_, e⟩ | ⟨_, e⟩
 ·rw [e]; decide
 ·rcases e with e | e | e | e | e | e | e | e | e | e | e | e <;> (rw [e]; decide)
theorem readType_any (s : ByteArray) (hs : s.size ≤ 400000000) (w : World) : Calls Tryz.prog 48 #[.string s] w (TyPost (readTy s) w) := by
 have HC := hid (fun W => readPhrase_any s hs W)
 cases hp : parse s with
 | none =>
  have HP := hid hp
  have HR := hid (show readTy s = none by rw [readTy, hp])
  clear hp
  go_enter Tryz.func48, Tryz.ntmps48
  go_wp2_with (go_at_call 85; refine (HC.out _).mono ?_; rintro e w1 hp; rw [HP.out] at hp; obtain ⟨pa, pp, pl, pc, rfl, hpl, hb1⟩ := hp.none; clear hp)
  go_ret2
  rw [HR.out]
  exact ⟨rfl, hb1.alloc hb1.size _⟩
 | some t =>
  have hwt := pas hp
  have hok := hid (parse_ok hp)
  have HP := hid hp
  have HR := hid (show readTy s = tyLim t by rw [readTy, hp]; rfl)
  clear hp
  cases hty : tyLim t with
  | none =>
   have HT := hid hty
   clear hty
   go_enter Tryz.func48, Tryz.ntmps48
   go_wp2_with (first | (go_at_call 85; refine (HC.out _).mono ?_; rintro e w1 hp; rw [HP.out] at hp; obtain ⟨pa, pp, pl, pc, rfl, hb1, ht⟩ := hp.some; clear hp; have HD := hid (fun W hk hs => lii ht hwt hok.out W hk hs); clear ht) | (go_at_call 86; refine (HD.out _ ((Kept.refl _).alloc (Nat.le_refl _) _) (by simp)).mono ?_; rintro e w3 hp; rw [HT.out] at hp; obtain ⟨rfl, hb3⟩ := hp.none; clear hp))
   go_ret2
   rw [HR.out, HT.out]
   have s1 := hb1.size
   exact ⟨rfl, hb1.trans (((Below.refl _ _).alloc (by omega) _).trans (hb3.mono (by simp; omega)))⟩
  | some tp =>
   have HT := hid hty
   clear hty
   go_enter Tryz.func48, Tryz.ntmps48
   go_wp2_with (first | (go_at_call 85; refine (HC.out _).mono ?_; rintro e w1 hp; rw [HP.out] at hp; obtain ⟨pa, pp, pl, pc, rfl, hb1, ht⟩ := hp.some; clear hp; have HD := hid (fun W hk hs => lii ht hwt hok.out W hk hs); clear ht) | (go_at_call 86; refine (HD.out _ ((Kept.refl _).alloc (Nat.le_refl _) _) (by simp)).mono ?_; rintro e w3 hp; rw [HT.out] at hp; obtain ⟨rfl, hb3⟩ := hp.some; clear hp))
   go_ret2
   rw [HR.out, HT.out]
   have s1 := hb1.size
   exact ⟨rfl, hb1.trans (((Below.refl _ _).alloc (by omega) _).trans (hb3.mono (by simp; omega)))⟩
theorem as_bit_bit (v : Value) (w : World) : (Instr.typeAssert (.iface 176 v) 54 176 true).run Tryz.prog w = .ok (.tuple #[v, .bool true]) w := by kernel_rfl
theorem as_bit_pair (v : Value) (w : World) : (Instr.typeAssert (.iface 176 v) 54 123 true).run Tryz.prog w = .ok (.tuple #[.agg #[.nilIface, .nilIface], .bool false]) w := by kernel_rfl
theorem as_bit_thunk (v : Value) (w : World) : (Instr.typeAssert (.iface 176 v) 54 125 true).run Tryz.prog w = .ok (.tuple #[.agg #[.nilIface], .bool false]) w := by kernel_rfl
theorem as_bit_ret (v : Value) (w : World) : (Instr.typeAssert (.iface 176 v) 54 127 true).run Tryz.prog w = .ok (.tuple #[.agg #[.nilIface], .bool false]) w := by kernel_rfl
theorem as_bit_fn (v : Value) (w : World) : (Instr.typeAssert (.iface 176 v) 54 129 true).run Tryz.prog w = .ok (.tuple #[.agg #[.nilIface, .nilIface], .bool false]) w := by kernel_rfl
theorem as_bit_choice (v : Value) (w : World) : (Instr.typeAssert (.iface 176 v) 54 130 true).run Tryz.prog w = .ok (.tuple #[.agg #[.nilIface, .nilIface], .bool false]) w := by kernel_rfl
theorem as_pair_bit (v : Value) (w : World) : (Instr.typeAssert (.iface 123 v) 54 176 true).run Tryz.prog w = .ok (.tuple #[.agg #[], .bool false]) w := by kernel_rfl
theorem as_pair_pair (v : Value) (w : World) : (Instr.typeAssert (.iface 123 v) 54 123 true).run Tryz.prog w = .ok (.tuple #[v, .bool true]) w := by kernel_rfl
theorem as_pair_thunk (v : Value) (w : World) : (Instr.typeAssert (.iface 123 v) 54 125 true).run Tryz.prog w = .ok (.tuple #[.agg #[.nilIface], .bool false]) w := by kernel_rfl
theorem as_pair_ret (v : Value) (w : World) : (Instr.typeAssert (.iface 123 v) 54 127 true).run Tryz.prog w = .ok (.tuple #[.agg #[.nilIface], .bool false]) w := by kernel_rfl
theorem as_pair_fn (v : Value) (w : World) : (Instr.typeAssert (.iface 123 v) 54 129 true).run Tryz.prog w = .ok (.tuple #[.agg #[.nilIface, .nilIface], .bool false]) w := by kernel_rfl
theorem as_pair_choice (v : Value) (w : World) : (Instr.typeAssert (.iface 123 v) 54 130 true).run Tryz.prog w = .ok (.tuple #[.agg #[.nilIface, .nilIface], .bool false]) w := by kernel_rfl
theorem as_thunk_bit (v : Value) (w : World) : (Instr.typeAssert (.iface 125 v) 54 176 true).run Tryz.prog w = .ok (.tuple #[.agg #[], .bool false]) w := by kernel_rfl
theorem as_thunk_pair (v : Value) (w : World) : (Instr.typeAssert (.iface 125 v) 54 123 true).run Tryz.prog w = .ok (.tuple #[.agg #[.nilIface, .nilIface], .bool false]) w := by kernel_rfl
theorem as_thunk_thunk (v : Value) (w : World) : (Instr.typeAssert (.iface 125 v) 54 125 true).run Tryz.prog w = .ok (.tuple #[v, .bool true]) w := by kernel_rfl
theorem as_thunk_ret (v : Value) (w : World) : (Instr.typeAssert (.iface 125 v) 54 127 true).run Tryz.prog w = .ok (.tuple #[.agg #[.nilIface], .bool false]) w := by kernel_rfl
theorem as_thunk_fn (v : Value) (w : World) : (Instr.typeAssert (.iface 125 v) 54 129 true).run Tryz.prog w = .ok (.tuple #[.agg #[.nilIface, .nilIface], .bool false]) w := by kernel_rfl
theorem as_thunk_choice (v : Value) (w : World) : (Instr.typeAssert (.iface 125 v) 54 130 true).run Tryz.prog w = .ok (.tuple #[.agg #[.nilIface, .nilIface], .bool false]) w := by kernel_rfl
theorem as_ret_bit (v : Value) (w : World) : (Instr.typeAssert (.iface 127 v) 54 176 true).run Tryz.prog w = .ok (.tuple #[.agg #[], .bool false]) w := by kernel_rfl
theorem as_ret_pair (v : Value) (w : World) : (Instr.typeAssert (.iface 127 v) 54 123 true).run Tryz.prog w = .ok (.tuple #[.agg #[.nilIface, .nilIface], .bool false]) w := by kernel_rfl
theorem as_ret_thunk (v : Value) (w : World) : (Instr.typeAssert (.iface 127 v) 54 125 true).run Tryz.prog w = .ok (.tuple #[.agg #[.nilIface], .bool false]) w := by kernel_rfl
theorem as_ret_ret (v : Value) (w : World) : (Instr.typeAssert (.iface 127 v) 54 127 true).run Tryz.prog w = .ok (.tuple #[v, .bool true]) w := by kernel_rfl
theorem as_ret_fn (v : Value) (w : World) : (Instr.typeAssert (.iface 127 v) 54 129 true).run Tryz.prog w = .ok (.tuple #[.agg #[.nilIface, .nilIface], .bool false]) w := by kernel_rfl
theorem as_ret_choice (v : Value) (w : World) : (Instr.typeAssert (.iface 127 v) 54 130 true).run Tryz.prog w = .ok (.tuple #[.agg #[.nilIface, .nilIface], .bool false]) w := by kernel_rfl
theorem as_fn_bit (v : Value) (w : World) : (Instr.typeAssert (.iface 129 v) 54 176 true).run Tryz.prog w = .ok (.tuple #[.agg #[], .bool false]) w := by kernel_rfl
theorem as_fn_pair (v : Value) (w : World) : (Instr.typeAssert (.iface 129 v) 54 123 true).run Tryz.prog w = .ok (.tuple #[.agg #[.nilIface, .nilIface], .bool false]) w := by kernel_rfl
theorem as_fn_thunk (v : Value) (w : World) : (Instr.typeAssert (.iface 129 v) 54 125 true).run Tryz.prog w = .ok (.tuple #[.agg #[.nilIface], .bool false]) w := by kernel_rfl
theorem as_fn_ret (v : Value) (w : World) : (Instr.typeAssert (.iface 129 v) 54 127 true).run Tryz.prog w = .ok (.tuple #[.agg #[.nilIface], .bool false]) w := by kernel_rfl
theorem as_fn_fn (v : Value) (w : World) : (Instr.typeAssert (.iface 129 v) 54 129 true).run Tryz.prog w = .ok (.tuple #[v, .bool true]) w := by kernel_rfl
theorem as_fn_choice (v : Value) (w : World) : (Instr.typeAssert (.iface 129 v) 54 130 true).run Tryz.prog w = .ok (.tuple #[.agg #[.nilIface, .nilIface], .bool false]) w := by kernel_rfl
theorem as_choice_bit (v : Value) (w : World) : (Instr.typeAssert (.iface 130 v) 54 176 true).run Tryz.prog w = .ok (.tuple #[.agg #[], .bool false]) w := by kernel_rfl
theorem as_choice_pair (v : Value) (w : World) : (Instr.typeAssert (.iface 130 v) 54 123 true).run Tryz.prog w = .ok (.tuple #[.agg #[.nilIface, .nilIface], .bool false]) w := by kernel_rfl
theorem as_choice_thunk (v : Value) (w : World) : (Instr.typeAssert (.iface 130 v) 54 125 true).run Tryz.prog w = .ok (.tuple #[.agg #[.nilIface], .bool false]) w := by kernel_rfl
theorem as_choice_ret (v : Value) (w : World) : (Instr.typeAssert (.iface 130 v) 54 127 true).run Tryz.prog w = .ok (.tuple #[.agg #[.nilIface], .bool false]) w := by kernel_rfl
theorem as_choice_fn (v : Value) (w : World) : (Instr.typeAssert (.iface 130 v) 54 129 true).run Tryz.prog w = .ok (.tuple #[.agg #[.nilIface, .nilIface], .bool false]) w := by kernel_rfl
theorem as_choice_choice (v : Value) (w : World) : (Instr.typeAssert (.iface 130 v) 54 130 true).run Tryz.prog w = .ok (.tuple #[v, .bool true]) w := by kernel_rfl
structure Ex where
 a : Nat
 b : Nat
 n : Nat
def Ex.atom (l : Nat) : Ex := ⟨1, l, 0⟩
def Ex.head (l : Nat) : Ex := ⟨1, 2 + l, 1⟩
def Ex.wi (e p : Ex) : Ex := ⟨e.a + p.a, e.b + 1 + p.b, max e.n (1 + p.n)⟩
def wis (e : Ex) (l : List Ex) : Ex := l.foldl Ex.wi e
theorem wi_comm (e p q : Ex) : (e.wi p).wi q = (e.wi q).wi p := by
 simp only [Ex.wi, Ex.mk.injEq]
 exact ⟨by omega, by omega, by omega⟩
theorem wis_wi (e p : Ex) (l : List Ex) : wis (e.wi p) l = (wis e l).wi p := by
 induction l generalizing e with
 | nil => rfl
 | cons q l ih =>
  show wis ((e.wi p).wi q) l = (wis (e.wi q) l).wi p
  rw [wi_comm, ih]
theorem wis_snoc (e : Ex) (l : List Ex) (i : Nat) (p : Ex) (h : l[i]? = some p) : wis e (l.take (i + 1)) = (wis e (l.take i)).wi p := by
 rw [List.take_add_one, h, Option.toList_some]
 show List.foldl _ _ _ = _
 rw [List.foldl_append]; rfl
theorem wis_le (e : Ex) (l : List Ex) : e.a ≤ (wis e l).a ∧ e.b ≤ (wis e l).b ∧ e.n ≤ (wis e l).n := by
 induction l generalizing e with
 | nil => exact ⟨Nat.le_refl _, Nat.le_refl _, Nat.le_refl _⟩
 | cons q l ih =>
  obtain ⟨h1, h2, h3⟩ := ih (e.wi q)
  have e1 : (e.wi q).a = e.a + q.a := rfl
  have e2 : (e.wi q).b = e.b + 1 + q.b := rfl
  have e3 : (e.wi q).n = max e.n (1 + q.n) := rfl
  show e.a ≤ (wis (e.wi q) l).a ∧ e.b ≤ (wis (e.wi q) l).b ∧ e.n ≤ (wis (e.wi q) l).n
  exact ⟨by omega, by omega, by omega⟩
theorem wis_take (e : Ex) (l : List Ex) (i : Nat) : (wis e (l.take i)).a ≤ (wis e l).a ∧ (wis e (l.take i)).b ≤ (wis e l).b ∧ (wis e (l.take i)).n ≤ (wis e l).n := by
 have h : wis e l = wis (wis e (l.take i)) (l.drop i) := by
  show List.foldl _ _ _ = List.foldl _ (List.foldl _ _ _) _
  rw [← List.foldl_append, List.take_append_drop]
 rw [h]; exact wis_le _ _
def Ty.ex : Ty → Ex
 | .bit => Ex.atom 1
 | .pair a c => ((Ex.head 1).wi a.ex).wi c.ex
 | .thunk c => (Ex.head 1).wi c.ex
 | .ret a => (Ex.head 1).wi a.ex
 | .fn a c => ((Ex.head 1).wi a.ex).wi c.ex
 | .choice a c => ((Ex.head 1).wi a.ex).wi c.ex
def exT : Option Ty → Ex → Ex
 | some t, e => e.wi t.ex
 | none, e => e
def exB (bs : List ByteArray) (e : Ex) : Ex := wis e (bs.map fun s => Ex.atom s.size)
mutual
def Tm.ex : Tm → Ex
 | .mk hd a _ bs ty ks => if a.toList = [] then Tm.exs ks (exT ty (exB bs (Ex.head hd.size))) else Ex.atom a.size
def Tm.exs : List Tm → Ex → Ex
 | [], e => e
 | k :: ks, e => Tm.exs ks (e.wi k.ex)
end
theorem tme (ks : List Tm) (e : Ex) : Tm.exs ks e = wis e (ks.map Tm.ex) := by
 induction ks generalizing e with
 | nil => rfl
 | cons k ks ih => rw [Tm.exs, ih]; rfl
def Tree.ex (t : Tree) : Ex := ⟨t.size, t.write.length, t.dp - 1⟩
def exTr (ps : List Tree) (e : Ex) : Ex := wis e (ps.map Tree.ex)
theorem dp_pos (t : Tree) : 1 ≤ t.dp := by cases t <;> rw [Tree.dp] <;> omega
theorem exTr_eq (ps : List Tree) (e : Ex) : exTr ps e = ⟨e.a + Tree.sizes ps, e.b + (Tree.writes ps).length, max e.n (Tree.dps ps)⟩ := by
 induction ps generalizing e with
 | nil => simp [exTr, wis, Tree.sizes, Tree.writes, Tree.dps]
 | cons p ps ih =>
  have h := ih (e.wi p.ex)
  have hp := dp_pos p
  show exTr ps (e.wi p.ex) = _
  rw [h]
  have e3 : (Tree.dps (p :: ps)) = max p.dp (Tree.dps ps) := by rw [Tree.dps] <;> rfl
  rw [Tree.sizes, Tree.writes, e3]
  simp only [Ex.wi, Tree.ex, List.length_cons, List.length_append, Ex.mk.injEq]
  exact ⟨by omega, by omega, by omega⟩
theorem node_ex {q : ByteArray} (ps : List Tree) : (Tree.node (.atom q :: ps)).ex = exTr ps (Ex.head q.size) := by
 rw [exTr_eq]
 have e3 : (Tree.node (.atom q :: ps)).dp = 1 + max 1 (Tree.dps ps) := by rw [Tree.dp, Tree.dps, Tree.dp] <;> rfl
 have e4 : q.data.toList.length = q.size := rfl
 simp only [Tree.ex, Ex.head, Ex.mk.injEq]
 rw [e3, Tree.size, Tree.sizes, Tree.size, Tree.write, Tree.write]
 simp only [List.length_cons, List.length_append, List.length_nil, e4]
 refine ⟨?_, ?_, ?_⟩
 ·first | trivial | omega
 ·omega
 ·omega
theorem tyParts_ex {L : List UInt8} {ks : List Ty} {ty : Ty} (h : tya L ks = some ty) : ty.ex = wis (Ex.head 1) (ks.map Ty.ex) ∧ L.length = 1 := by
 unfold tya at h
 split at h
 ·rename_i a b
  split at h
  ·rename_i c; simp at h; subst h; exact ⟨rfl, by rw [c.1]; rfl⟩
  ·split at h
   ·rename_i c; simp at h; subst h; exact ⟨rfl, by rw [c.1]; rfl⟩
   ·split at h
    ·rename_i c; simp at h; subst h; exact ⟨rfl, by rw [c.1]; rfl⟩
    ·simp at h
 ·rename_i a
  split at h
  ·rename_i c; simp at h; subst h; exact ⟨rfl, by rw [c.1]; rfl⟩
  ·split at h
   ·rename_i c; simp at h; subst h; exact ⟨rfl, by rw [c.1]; rfl⟩
   ·simp at h
 ·simp at h
mutual
theorem ty_ex : ∀ (t : Tree) (ty : Ty), t.ty = some ty → t.ex = ty.ex
 | .atom s, ty, h => by
  rw [Tree.ty] at h
  split at h
  ·rename_i hs
   simp at h; subst h
   rw [Tree.ex, Tree.write, ← Go.ByteArray.toList_eq, hs, Tree.size, Tree.dp]; rfl
  ·simp at h
 | .node [], ty, h => by simp [Tree.ty] at h
 | .node (q :: qs), ty, h => by
  rw [Tree.ty] at h
  cases hk : Tree.tys qs with
  | none => rw [hk] at h; simp at h
  | some ks =>
   rw [hk] at h; simp only at h
   obtain ⟨h1, h2⟩ := tyParts_ex h
   cases q with
   | atom x =>
    rw [Tree.text] at h2
    have hz : x.size = 1 := by rw [← h2, Go.ByteArray.toList_eq]; rfl
    rw [node_ex, hz, h1]; exact tys_ex qs ks _ hk
   | node ps => rw [Tree.text, emp] at h2; simp at h2
theorem tys_ex : ∀ (ps : List Tree) (ks : List Ty) (e : Ex), Tree.tys ps = some ks → exTr ps e = wis e (ks.map Ty.ex)
 | [], ks, e, h => by rw [Tree.tys] at h; simp at h; subst h; rfl
 | p :: ps, ks, e, h => by
  rw [Tree.tys] at h
  cases ht : p.ty with
  | none => rw [ht] at h; simp at h
  | some t =>
   rw [ht] at h; simp only at h
   cases hr : Tree.tys ps with
   | none => rw [hr] at h; simp at h
   | some ts =>
    rw [hr] at h; simp at h; subst h
    have h1 := ty_ex p t ht
    have h2 := tys_ex ps ts (e.wi t.ex) hr
    show exTr ps (e.wi p.ex) = wis (e.wi t.ex) (ts.map Ty.ex)
    rw [h1, h2]
end
def St.ex (st : St) (e : Ex) : Ex := Tm.exs st.kids (exT st.ty (exB st.binds e))
theorem exT_wi (ty : Option Ty) (e p : Ex) : exT ty (e.wi p) = (exT ty e).wi p := by
 cases ty with
 | none => rfl
 | some t => exact wi_comm _ _ _
theorem st_bind (st : St) (s : ByteArray) (e : Ex) : St.ex { st with binds := st.binds ++ [s] } e = (st.ex e).wi (Ex.atom s.size) := by
 have h : exB (st.binds ++ [s]) e = (exB st.binds e).wi (Ex.atom s.size) := by
  show wis e (List.map _ (st.binds ++ [s])) = _
  rw [List.map_append]
  show List.foldl _ _ _ = _
  rw [List.foldl_append]; rfl
 show Tm.exs st.kids (exT st.ty (exB (st.binds ++ [s]) e)) = _
 rw [h, exT_wi, tme, wis_wi, ← tme]; rfl
theorem st_ty (st : St) (t : Ty) (h : st.ty = none) (e : Ex) : St.ex { st with ty := some t } e = (st.ex e).wi t.ex := by
 show Tm.exs st.kids ((exB st.binds e).wi t.ex) = _
 rw [tme, wis_wi, ← tme]
 show _ = Ex.wi (Tm.exs st.kids (exT st.ty (exB st.binds e))) t.ex
 rw [h]; rfl
theorem st_kid (st : St) (k : Tm) (e : Ex) : St.ex { st with kids := st.kids ++ [k] } e = (st.ex e).wi k.ex := by
 show Tm.exs (st.kids ++ [k]) _ = Ex.wi (Tm.exs st.kids _) k.ex
 rw [tme, tme, List.map_append]
 show List.foldl _ _ _ = _
 rw [List.foldl_append]; rfl
theorem parts_ex (ar : List ByteArray) (e : Ex) : ∀ (cs : List Sg) (ps : List Tree) (st st' : St), (∀ p ∈ ps, ∀ ar m, p.tm ar = some m → p.ex = m.ex) → cs.length = ps.length → tyOnce cs st →
    Tree.parts ar cs ps st = some st' → st'.ex e = exTr ps (st.ex e)
 | [], [], st, st', _, _, _, h => by simp [Tree.parts] at h; subst h; rfl
 | c :: cs, p :: ps, st, st', ih, hl, ho, h => by
  have ih' : ∀ p ∈ ps, ∀ ar m, p.tm ar = some m → p.ex = m.ex := fun q hq => ih q (List.mem_cons_of_mem _ hq)
  have hl' : cs.length = ps.length := by simpa using hl
  have go : ∀ st1, (c.isT = false → st1.ty = st.ty) → Tree.parts ar cs ps st1 = some st' → st1.ex e = (st.ex e).wi p.ex → st'.ex e = exTr (p :: ps) (st.ex e) := by
   intro st1 h1 h2 h3
   rw [parts_ex ar e cs ps st1 st' ih' hl' (tyo ho h1) h2, h3]; rfl
  cases c with
  | X =>
   rw [Tree.parts] at h
   cases h1 : addX p.text st with
   | none => rw [h1] at h; simp at h
   | some st1 =>
    rw [h1] at h
    have h2 := adx h1
    refine go st1 (fun _ => by rw [h2.2]) h ?_
    cases p with
    | atom x =>
     rw [h2.2, Tree.text, st_bind]
     have : (Tree.atom x).ex = Ex.atom x.size := by rw [Tree.ex, Tree.size, Tree.write, Tree.dp]; rfl
     rw [this]
    | node qs => have h3 := h2.1; rw [Tree.text, emp] at h3; cases h3
  | A =>
   rw [Tree.parts] at h
   cases h1 : addT true p st with
   | none => rw [h1] at h; simp at h
   | some st1 =>
    rw [h1] at h
    obtain ⟨ty, ht, h2⟩ := adt h1
    refine go st1 (by simp [Sg.isT]) h ?_
    have hn := tyn ho rfl
    rw [h2, st_ty _ _ hn, ty_ex p ty (tyl ht).1]
  | C =>
   rw [Tree.parts] at h
   cases h1 : addT false p st with
   | none => rw [h1] at h; simp at h
   | some st1 =>
    rw [h1] at h
    obtain ⟨ty, ht, h2⟩ := adt h1
    refine go st1 (by simp [Sg.isT]) h ?_
    have hn := tyn ho rfl
    rw [h2, st_ty _ _ hn, ty_ex p ty (tyl ht).1]
  | V =>
   rw [Tree.parts] at h
   cases h1 : addK true (p.tm (ar ++ st.binds)) st with
   | none => rw [h1] at h; simp at h
   | some st1 =>
    rw [h1] at h
    obtain ⟨m, ht, h2⟩ := adk h1
    refine go st1 (fun _ => by rw [h2]) h ?_
    rw [h2, st_kid, ih p (List.mem_cons_self ..) _ _ ht]
  | M =>
   rw [Tree.parts] at h
   cases h1 : addK false (p.tm (ar ++ st.binds)) st with
   | none => rw [h1] at h; simp at h
   | some st1 =>
    rw [h1] at h
    obtain ⟨m, ht, h2⟩ := adk h1
    refine go st1 (fun _ => by rw [h2]) h ?_
    rw [h2, st_kid, ih p (List.mem_cons_self ..) _ _ ht]
theorem tm_ex (t : Tree) (ar : List ByteArray) (m : Tm) (h : t.tm ar = some m) : t.ex = m.ex := by
 match t with
 | .atom s =>
  have he : (Tree.atom s).ex = Ex.atom s.size := by rw [Tree.ex, Tree.size, Tree.write, Tree.dp]; rfl
  rw [Tree.tm, atomTm] at h
  rw [he]
  split at h
  ·rename_i c
   simp at h; subst h
   rw [Tm.ex, if_neg (by rcases c with c | c <;> (rw [c]; simp))]
  ·split at h
   ·rename_i c
    simp at h; subst h
    rw [Tm.ex, if_neg (nameB_ne c)]
   ·simp at h
 | .node [] => rw [Tree.tm] at h; simp at h
 | .node (q :: ps) =>
  obtain ⟨st, h1, h2, h3, rfl⟩ := tmn h
  have := parts_ex ar (Ex.head q.text.size) _ ps St.none st (fun p hp ar m => tm_ex p ar m) h2 (she _) h3
  cases q with
  | atom x =>
   rw [Tree.text] at this ⊢
   rw [Tm.ex, if_pos emp, node_ex]
   exact this.symm
  | node qs => rw [Tree.text, emp] at h1; exact absurd rfl h1
termination_by t
decreasing_by
 have := List.sizeOf_lt_of_mem hp
 simp; omega
theorem specTypeKind_any (s : ByteArray) (hs : s.size ≤ 400000000) (w : World) : Calls Tryz.prog 58 #[.string s] w fun e w' => e = .returned (.string (kindOf (readTy s))) ∧ Below w.heap.size w w' := by
 have HC := hid (fun W => l1Type_any s hs W)
 cases ht : ty0 s with
 | none =>
  have HR := hid (ty1 ht)
  have HT := hid ht
  clear ht
  go_enter Tryz.func58, Tryz.ntmps58
  go_wp2_with (go_at_call 98; refine (HC.out _).mono ?_; rintro e w1 hp; rw [HT.out] at hp; obtain ⟨pa, pp, pl, pc, rfl, hpl, hb1⟩ := hp.none; clear hp)
  go_ret
  exact ⟨rer (by rw [HR.out]; rfl), hb1.alloc hb1.size _⟩
 | some t =>
  obtain ⟨hpt, hsz, ty, hty, hrt, hk⟩ := tym ht
  have hwt := pas hpt
  have HR := hid hrt
  have HK := hid hk
  have HT := hid ht
  clear ht hpt hty hrt hk
  go_enter Tryz.func58, Tryz.ntmps58
  go_wp2_with (first | (go_at_call 98; refine (HC.out _).mono ?_; rintro e w1 hp; rw [HT.out] at hp; obtain ⟨pa, pp, pl, pc, rfl, hb1, htr⟩ := hp.some; clear hp; have HD := hid (fun W hk hs => l1Kind_any htr hwt W hk hs); clear htr) | (go_at_call 99; refine (HD.out _ ((Kept.refl _).alloc (Nat.le_refl _) _) (by simp)).mono ?_; rintro e w2 ⟨rfl, hb2⟩))
  go_ret
  have s1 := hb1.size
  exact ⟨rer (by rw [HR.out, HK.out]; rfl), hb1.trans (((Below.refl _ _).alloc s1 _).trans (hb2.mono (by simp; omega)))⟩
end Go.Proofs.YtfogjomebcponaaGreatDoor
