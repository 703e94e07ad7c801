/- What draws lean on: a code that is read byte by byte. -/
import Derived.Test.YtnphopnhioogdaaDoorSpecA
import Derived.Test.YtnphopnhioogdaaDoorValsP
import Derived.Deep.RegionWith
import Derived.IntWalk
import Derived.Test.YtnphopnhioogdaaDoorSvP
namespace Go.Proofs.YtnphopnhioogdaaDoor
open Go.RowKit

theorem xor_i64 (a b : Int) (ha : 0 ≤ a) (ha2 : a < 4611686018427387904) (hb : 0 ≤ b) (hb2 : b < 4611686018427387904) : 0 ≤ bits .xor .i64 a b ∧ bits .xor .i64 a b < 4611686018427387904 := by
  obtain ⟨x, rfl⟩ := Int.eq_ofNat_of_zero_le ha
  obtain ⟨y, rfl⟩ := Int.eq_ofNat_of_zero_le hb
  have hx : x ^^^ y < 2 ^ 62 := Nat.xor_lt_two_pow (by omega) (by omega)
  have h1 : (BitVec.ofInt 64 (x : Int)).toNat = x := by
    rw [BitVec.ofInt_natCast, BitVec.toNat_ofNat]; exact Nat.mod_eq_of_lt (by omega)
  have h2 : (BitVec.ofInt 64 (y : Int)).toNat = y := by
    rw [BitVec.ofInt_natCast, BitVec.toNat_ofNat]; exact Nat.mod_eq_of_lt (by omega)
  have h3 : bits .xor .i64 (x : Int) (y : Int) = IntKind.i64.wrap ((BitVec.ofInt 64 (x : Int) ^^^ BitVec.ofInt 64 (y : Int)).toNat : Int) := rfl
  rw [h3, BitVec.toNat_xor, h1, h2, IntWalk.i64_in _ (by omega)]
  omega

/-- Bytes as values. -/
def u8s (zs : List Int) : List Value := zs.map fun z => Value.int .u8 z
theorem u8s_get {zs : List Int} {i : Nat} {z : Int} (h : zs[i]? = some z) : (u8s zs)[i]? = some (.int .u8 z) := by simp [u8s, h]
/-- The code that a reader reads. -/
def Code8 (w : World) (b : Nat) (p : Option Addr) (n : Nat) (zs : List Int) : Prop :=
  zs.length = n ∧ n ≤ 2000 ∧ (∀ z ∈ zs, 0 ≤ z ∧ z ≤ 255) ∧ (∀ g o s, p = some ⟨g, o, s⟩ → n = 0 ∨ g < b) ∧ Vals w p (u8s zs)
/-- A reader: its block, and how far it has read at most. -/
def Rd (w : World) (b q : Nat) : Prop :=
  ∃ p n c zs k, w.heap[b]? = some (.cells #[.slice p n c, .int .i64 ((k : Nat) : Int)] 75 (0, 0)) ∧ k ≤ q ∧ Code8 w b p n zs
/-- What a draw leaves alone. -/
structure Px (b : Nat) (w w' : World) : Prop where
  os : w'.os = w.os
  tape : w'.tape = w.tape
  output : w'.output = w.output
  size : w.heap.size ≤ w'.heap.size
  block : ∀ k, k < w.heap.size → k ≠ b → w'.heap[k]? = w.heap[k]?
theorem Px.refl (b : Nat) (w : World) : Px b w w := ⟨rfl, rfl, rfl, Nat.le_refl _, fun _ _ _ => rfl⟩
theorem Px.trans {b : Nat} {w w1 w2 : World} (h : Px b w w1) (k : Px b w1 w2) : Px b w w2 :=
  ⟨k.os.trans h.os, k.tape.trans h.tape, k.output.trans h.output, Nat.le_trans h.size k.size, fun i hi hb => (k.block i (Nat.lt_of_lt_of_le hi h.size) hb).trans (h.block i hi hb)⟩
theorem Px.below {b B : Nat} {w w' : World} (h : Below B w w') (hB : w.heap.size ≤ B) : Px b w w' := ⟨h.os, h.tape, h.output, h.size, fun k hk _ => h.block k (by omega)⟩
theorem Px.to_below {b B : Nat} {w w' : World} (h : Px b w w') (hb : B ≤ b) (hB : B ≤ w.heap.size) : Below B w w' :=
  ⟨h.os, h.tape, h.output, h.size, fun k hk => h.block k (by omega) (by omega)⟩
theorem Px.cell {b : Nat} {w w' : World} (h : Px b w w') {a : Addr} {v : Value} (ha : a.block ≠ b) (hc : w.cell? a = some v) : w'.cell? a = some v :=
  (World.cell?_of_block (w := w) (h.block _ (World.block_lt_of_cell? w a hc) ha)).trans hc
theorem Code8.px {w w' : World} {b : Nat} {p : Option Addr} {n : Nat} {zs : List Int} (h : Code8 w b p n zs) (hp : Px b w w') : Code8 w' b p n zs := by
  obtain ⟨h1, h2, h3, h4, h5⟩ := h
  refine ⟨h1, h2, h3, h4, fun i v hv => ?_⟩
  obtain ⟨g, o, he, hc⟩ := h5 i v hv
  have hi : i < zs.length := by have := (List.getElem?_eq_some_iff.1 hv).1; simpa [u8s] using this
  exact ⟨g, o, he, hp.cell (by have := h4 g o none he; show g ≠ b; omega) hc⟩
theorem Rd.below {w w' : World} {b q B : Nat} (h : Rd w b q) (hb : Below B w w') (hB : b < B) (hB2 : w.heap.size ≤ B) : Rd w' b q := by
  obtain ⟨p, n, c, zs, k, h1, h2, h3⟩ := h
  exact ⟨p, n, c, zs, k, (hb.block b hB).trans h1, h2, h3.px (Px.below hb hB2)⟩
theorem Rd.le {w : World} {b q q' : Nat} (h : Rd w b q) (hq : q ≤ q') : Rd w b q' := by
  obtain ⟨p, n, c, zs, k, h1, h2, h3⟩ := h
  exact ⟨p, n, c, zs, k, h1, by omega, h3⟩
theorem Rd.lt {w : World} {b q : Nat} (h : Rd w b q) : b < w.heap.size := by
  obtain ⟨p, n, c, zs, k, h1, h2, h3⟩ := h
  exact lt_of_block h1
theorem Rd.alloc {w : World} {b q : Nat} (h : Rd w b q) (o : Obj) : Rd (w.alloc o) b q :=
  h.below ((Below.refl w.heap.size w).alloc (Nat.le_refl _) o) h.lt (Nat.le_refl _)
theorem Rd.drew {w : World} {b q : Nat} (h : Rd w b q) : Rd w.drew b q := h.below (Below.refl w.heap.size w).drew h.lt (Nat.le_refl _)
end Go.Proofs.YtnphopnhioogdaaDoor
