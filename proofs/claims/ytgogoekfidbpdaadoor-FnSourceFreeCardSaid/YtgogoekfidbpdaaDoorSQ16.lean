/- Merged: DrwA, DrwB, DrwCO, DrwO1. -/
import Derived.Deep.RegionWith
import Derived.IntWalk
import Derived.Test.YtgogoekfidbpdaaDoorSQ8
import Derived.Test.YtgogoekfidbpdaaDoorSQ0
import Derived.Test.YtgogoekfidbpdaaDoorSQSSvP
namespace Go.Proofs.YtgogoekfidbpdaaDoor
open Go.RowKit

theorem xor_i64 (a b : Int) (ha : 0 ≤ a) (ha2 : a < 4611686018427387904) (hb : 0 ≤ b) (hb2 : b < 4611686018427387904) : 0 ≤ bits .xor .i64 a b ∧ bits .xor .i64 a b < 4611686018427387904 := by
  obtain ⟨x, rfl⟩ := Int.eq_ofNat_of_zero_le ha
  obtain ⟨y, rfl⟩ := Int.eq_ofNat_of_zero_le hb
  have hx : x ^^^ y < 2 ^ 62 := Nat.xor_lt_two_pow (by omega) (by omega)
  have h1 : (BitVec.ofInt 64 (x : Int)).toNat = x := by
    rw [BitVec.ofInt_natCast, BitVec.toNat_ofNat]; exact Nat.mod_eq_of_lt (by omega)
  have h2 : (BitVec.ofInt 64 (y : Int)).toNat = y := by
    rw [BitVec.ofInt_natCast, BitVec.toNat_ofNat]; exact Nat.mod_eq_of_lt (by omega)
  have h3 : bits .xor .i64 (x : Int) (y : Int) = IntKind.i64.wrap ((BitVec.ofInt 64 (x : Int) ^^^ BitVec.ofInt 64 (y : Int)).toNat : Int) := rfl
  rw [h3, BitVec.toNat_xor, h1, h2, IntWalk.i64_in _ (by omega)]
  omega

/-- Bytes as values. -/
def u8s (zs : List Int) : List Value := zs.map fun z => Value.int .u8 z
theorem u8s_get {zs : List Int} {i : Nat} {z : Int} (h : zs[i]? = some z) : (u8s zs)[i]? = some (.int .u8 z) := by simp [u8s, h]
/-- The code that a reader reads. -/
def Code8 (w : World) (b : Nat) (p : Option Addr) (n : Nat) (zs : List Int) : Prop :=
  zs.length = n ∧ n ≤ 2000 ∧ (∀ z ∈ zs, 0 ≤ z ∧ z ≤ 255) ∧ (∀ g o s, p = some ⟨g, o, s⟩ → n = 0 ∨ g < b) ∧ Vals w p (u8s zs)
/-- A reader: its block, and how far it has read at most. -/
def Rd (w : World) (b q : Nat) : Prop :=
  ∃ p n c zs k, w.heap[b]? = some (.cells #[.slice p n c, .int .i64 ((k : Nat) : Int)] 53 (0, 0)) ∧ k ≤ q ∧ Code8 w b p n zs
/-- What a draw leaves alone. -/
structure Px (b : Nat) (w w' : World) : Prop where
  os : w'.os = w.os
  tape : w'.tape = w.tape
  output : w'.output = w.output
  size : w.heap.size ≤ w'.heap.size
  block : ∀ k, k < w.heap.size → k ≠ b → w'.heap[k]? = w.heap[k]?
theorem Px.refl (b : Nat) (w : World) : Px b w w := ⟨rfl, rfl, rfl, Nat.le_refl _, fun _ _ _ => rfl⟩
theorem Px.trans {b : Nat} {w w1 w2 : World} (h : Px b w w1) (k : Px b w1 w2) : Px b w w2 :=
  ⟨k.os.trans h.os, k.tape.trans h.tape, k.output.trans h.output, Nat.le_trans h.size k.size, fun i hi hb => (k.block i (Nat.lt_of_lt_of_le hi h.size) hb).trans (h.block i hi hb)⟩
theorem Px.below {b B : Nat} {w w' : World} (h : Below B w w') (hB : w.heap.size ≤ B) : Px b w w' := ⟨h.os, h.tape, h.output, h.size, fun k hk _ => h.block k (by omega)⟩
theorem Px.to_below {b B : Nat} {w w' : World} (h : Px b w w') (hb : B ≤ b) (hB : B ≤ w.heap.size) : Below B w w' :=
  ⟨h.os, h.tape, h.output, h.size, fun k hk => h.block k (by omega) (by omega)⟩
theorem Px.cell {b : Nat} {w w' : World} (h : Px b w w') {a : Addr} {v : Value} (ha : a.block ≠ b) (hc : w.cell? a = some v) : w'.cell? a = some v :=
  (World.cell?_of_block (w := w) (h.block _ (World.block_lt_of_cell? w a hc) ha)).trans hc
theorem Code8.px {w w' : World} {b : Nat} {p : Option Addr} {n : Nat} {zs : List Int} (h : Code8 w b p n zs) (hp : Px b w w') : Code8 w' b p n zs := by
  obtain ⟨h1, h2, h3, h4, h5⟩ := h
  refine ⟨h1, h2, h3, h4, fun i v hv => ?_⟩
  obtain ⟨g, o, he, hc⟩ := h5 i v hv
  have hi : i < zs.length := by have := (List.getElem?_eq_some_iff.1 hv).1; simpa [u8s] using this
  exact ⟨g, o, he, hp.cell (by have := h4 g o none he; show g ≠ b; omega) hc⟩
theorem Rd.below {w w' : World} {b q B : Nat} (h : Rd w b q) (hb : Below B w w') (hB : b < B) (hB2 : w.heap.size ≤ B) : Rd w' b q := by
  obtain ⟨p, n, c, zs, k, h1, h2, h3⟩ := h
  exact ⟨p, n, c, zs, k, (hb.block b hB).trans h1, h2, h3.px (Px.below hb hB2)⟩
theorem Rd.le {w : World} {b q q' : Nat} (h : Rd w b q) (hq : q ≤ q') : Rd w b q' := by
  obtain ⟨p, n, c, zs, k, h1, h2, h3⟩ := h
  exact ⟨p, n, c, zs, k, h1, by omega, h3⟩
theorem Rd.lt {w : World} {b q : Nat} (h : Rd w b q) : b < w.heap.size := by
  obtain ⟨p, n, c, zs, k, h1, h2, h3⟩ := h
  exact lt_of_block h1
theorem Rd.alloc {w : World} {b q : Nat} (h : Rd w b q) (o : Obj) : Rd (w.alloc o) b q :=
  h.below ((Below.refl w.heap.size w).alloc (Nat.le_refl _) o) h.lt (Nat.le_refl _)
theorem Rd.drew {w : World} {b q : Nat} (h : Rd w b q) : Rd w.drew b q := h.below (Below.refl w.heap.size w).drew h.lt (Nat.le_refl _)
end Go.Proofs.YtgogoekfidbpdaaDoor

namespace Go.Proofs.YtgogoekfidbpdaaDoor
open Go.RowKit

theorem rd_next {w : World} {b q k : Nat} {p : Option Addr} {n c : Nat} {zs : List Int} (hb : w.heap[b]? = some (.cells #[.slice p n c, .int .i64 ((k : Nat) : Int)] 53 (0, 0))) (hk : k ≤ q) (hc : Code8 w b p n zs) (u : Int) (hu : u = (k : Int) + 1) :
    Rd (w.setCell ⟨b, 1, none⟩ (.int .i64 u)) b (q + 1) ∧ Px b w (w.setCell ⟨b, 1, none⟩ (.int .i64 u)) := by
  have hp : Px b w (w.setCell ⟨b, 1, none⟩ (.int .i64 u)) := ⟨rfl, rfl, rfl, by simp [World.setCell], fun i _ hi => Below.heap_setCell _ _ _ _ hi⟩
  subst hu
  exact ⟨⟨p, n, c, zs, k + 1, by rw [pair_setCell1 hb]; rfl, by omega, hc.px hp⟩, hp⟩
theorem rd_quiet {w w' : World} {b q : Nat} (h : Rd w' b q ∧ Px b w w') (m : Nat) : Rd (w'.drewN m) b q ∧ Px b w (w'.drewN m) :=
  ⟨h.1.below (below_drewN (Below.refl w'.heap.size w') m) h.1.lt (Nat.le_refl _), h.2.trans (Px.below (below_drewN (Below.refl w'.heap.size w') m) (Nat.le_refl _))⟩
theorem emod_lt (x n : Int) (hn : 1 ≤ n) : 0 ≤ x % n ∧ x % n < n := by
  exact ⟨Int.emod_nonneg _ (by omega), Int.emod_lt_of_pos _ (by omega)⟩

/-- What a draw of a number tells. -/
def PickPost (b q : Nat) (n : Int) (w : World) (e : Ending) (w' : World) : Prop := ∃ x : Int, e = .returned (.int .i64 x) ∧ 0 ≤ x ∧ (1 ≤ n → x < n) ∧ (n < 1 → x = 0) ∧ Rd w' b q ∧ Px b w w'
theorem pick_got {b q : Nat} {n x : Int} {w w' : World} (h0 : 0 ≤ x) (hx : x < n) (hr : Rd w' b q ∧ Px b w w') : PickPost b q n w (.returned (.int .i64 x)) w' := ⟨x, rfl, h0, fun _ => hx, fun h => by omega, hr.1, hr.2⟩
theorem pick_none {b q : Nat} {n : Int} {w w' : World} (hr : Rd w' b q ∧ Px b w w') : PickPost b q n w (.returned (.int .i64 0)) w' := ⟨0, rfl, Int.le_refl _, fun h => Int.lt_of_lt_of_le (by decide) h, fun _ => rfl, hr.1, hr.2⟩

set_option maxRecDepth 100000 in
set_option maxHeartbeats 2000000 in
/-- A number that is drawn: from 0 on and below n. -/
theorem pick_any {w : World} {b q : Nat} (hr : Rd w b q) (hq : q ≤ 1099511627776) (n : Int) (hn : -9223372036854775808 ≤ n ∧ n ≤ 9223372036854775807) :
    Calls Tryd.prog 21 #[.pointer (some ⟨b, 0, none⟩), .int .i64 n] w (PickPost b (q + 1) n w) := by
  obtain ⟨p, len, c, zs, k, hb, hk, hc⟩ := hr
  have cc := cells_of_pair hb
  have c1 := cells_of_pair (pair_setCell1 (u := .int .i64 ((k : Int) + 1)) hb)
  have HN := hid (rd_next hb hk hc)
  have hlen := hc.2.1
  have HC := hid hc
  have hk2 : k ≤ 1099511627776 := by omega
  clear hb hc
  by_cases h1 : n < 1
  · go_enter Tryd.func21, Tryd.ntmps21
    go_wp2_with fail
    go_ret
    exact pick_none (HN.out _ rfl)
  by_cases h2 : len = 0
  · subst h2
    go_enter Tryd.func21, Tryd.ntmps21
    go_wp2_with fail
    go_ret
    exact pick_none (HN.out _ rfl)
  have hz : ∀ i, i < len → ∃ z : Int, 0 ≤ z ∧ z ≤ 255 ∧ ∃ g o, p = some ⟨g, o, none⟩ ∧ (w.setCell ⟨b, 1, none⟩ (.int .i64 ((k : Int) + 1))).cell? ⟨g, o + i, none⟩ = some (.int .u8 z) := by
    intro i hi
    obtain ⟨h1, h2, h3, h4, h5⟩ := HC.out.px (HN.out _ rfl).2
    have hx : zs[i]? = some zs[i] := List.getElem?_eq_getElem (by omega)
    obtain ⟨g, o, he, hc⟩ := h5 i _ (u8s_get hx)
    have := h3 _ (List.mem_of_getElem? hx)
    exact ⟨_, this.1, this.2, g, o, he, hc⟩
  by_cases h3 : k < len
  · obtain ⟨z, z0, z1, g, o, rfl, hcz⟩ := hz k h3
    clear hz
    have TM := hid (emod_lt z n (by omega))
    have H1 := hid h1
    go_enter Tryd.func21, Tryd.ntmps21
    go_wp2_with fail
    go_ret
    exact pick_got TM.out.1 TM.out.2 (HN.out _ rfl)
  · obtain ⟨a1, ha1⟩ : ∃ a1, k % len = a1 := ⟨_, rfl⟩
    obtain ⟨a2, ha2⟩ : ∃ a2, (k * 7 + 3) % len = a2 := ⟨_, rfl⟩
    have l1 : a1 < len := by rw [← ha1]; exact Nat.mod_lt _ (by omega)
    have l2 : a2 < len := by rw [← ha2]; exact Nat.mod_lt _ (by omega)
    have e1 : (k : Int) % (len : Int) = (a1 : Int) := by rw [← ha1]; rfl
    have e2 : ((k : Int) * 7 + 3) % (len : Int) = (a2 : Int) := by rw [← ha2]; simp
    obtain ⟨z, z0, z1, g, o, rfl, hcz⟩ := hz a1 l1
    obtain ⟨y, y0, y1, g2, o2, hg2, hcy⟩ := hz a2 l2
    obtain ⟨rfl, rfl⟩ : g = g2 ∧ o = o2 := by simpa using hg2
    have d0 : (0 : Int) ≤ (k : Int) / (len : Int) := Int.ediv_nonneg (by omega) (by omega)
    have d1 : (k : Int) / (len : Int) ≤ (k : Int) := Int.ediv_le_self _ (by omega)
    have H1 := hid h1
    clear hz ha1 ha2 hg2
    go_enter Tryd.func21, Tryd.ntmps21
    go_wp2_with fail
    go_quiet (fail)
    go_wp2_with fail
    go_ret
    have hx0 : (0 : Int) ≤ z * 131 + y * 1117 + (k : Int) * 29 + (k : Int) / (len : Int) * 53 := by omega
    have hx1 : z * 131 + y * 1117 + (k : Int) * 29 + (k : Int) / (len : Int) * 53 < 4611686018427387904 := by omega
    generalize z * 131 + y * 1117 + (k : Int) * 29 + (k : Int) / (len : Int) * 53 = X at hx0 hx1 ⊢
    have hb := xor_i64 X (X / 64) hx0 hx1 (by omega) (by omega)
    generalize bits BinOp.xor IntKind.i64 X (X / 64) = Z at hb ⊢
    rw [Int.tmod_eq_emod_of_nonneg hb.1]
    have he := emod_lt Z n H1.out
    exact pick_got he.1 he.2 (rd_quiet (HN.out _ rfl) _)
end Go.Proofs.YtgogoekfidbpdaaDoor

namespace Go.Proofs.YtgogoekfidbpdaaDoor
open Go.RowKit

/-- What a draw of a text tells: some text of at most so many bytes. -/
def Drawn (b q S : Nat) (w : World) (e : Ending) (w' : World) : Prop := ∃ s : ByteArray, e = .returned (.string s) ∧ s.size ≤ S ∧ Rd w' b q ∧ Px b w w'
theorem bsz (l : Array UInt8) : (⟨l⟩ : ByteArray).size = l.size := rfl
theorem two_cases {x : Int} (h0 : 0 ≤ x) (h1 : x < 2) : x = 0 ∨ x = 1 := by omega

set_option maxRecDepth 100000 in
set_option maxHeartbeats 2000000 in
/-- A text that is drawn from a list. -/
theorem rof_any {w : World} {b q : Nat} (hr : Rd w b q) (hq : q ≤ 1099511627776) (g n c S : Nat) (l : List ByteArray) (hl : SV w (some ⟨g, 0, none⟩) n c l) (hn : 1 ≤ n) (hn2 : n ≤ 1000) (hg : g ≠ b) (hS : ∀ s ∈ l, s.size ≤ S) :
    Calls Tryd.prog 25 #[.pointer (some ⟨b, 0, none⟩), .slice (some ⟨g, 0, none⟩) n c] w (Drawn b (q + 1) S w) := by
  have HP := hid (pick_any hr hq (n : Int) (by omega))
  have HL := hid hl
  clear hr hl
  go_enter Tryd.func25, Tryd.ntmps25
  go_wp2_with fail
  go_at_call 21
  refine HP.out.mono ?_
  rintro e w1 ⟨x, rfl, hx0, hx1, _, hr1, hp1⟩
  obtain ⟨k, rfl⟩ := Int.eq_ofNat_of_zero_le hx0
  have hk : k < n := by have := hx1 (by omega); omega
  obtain ⟨s, hs⟩ : ∃ s, l[k]? = some s := ⟨_, List.getElem?_eq_getElem (by rw [HL.out.1]; exact hk)⟩
  obtain ⟨g2, hg2, hcell⟩ := HL.out.2.2 k s hs
  obtain rfl : g = g2 := by simpa using hg2
  have hc1 := hp1.cell (a := ⟨g, k, none⟩) hg hcell
  have HS := hid (hS s (List.mem_of_getElem? hs))
  have HR := hid hr1
  have HX := hid hp1
  clear hr1 hp1 hcell hg2 hs hS hx0 hx1
  go_wp2_with fail
  go_ret
  exact ⟨s, rfl, HS.out, HR.out, HX.out⟩
end Go.Proofs.YtgogoekfidbpdaaDoor

namespace Go.Proofs.YtgogoekfidbpdaaDoor
open Go.RowKit

/-- A list of texts that is made at once. -/
theorem sv_lit (w : World) (l : List ByteArray) (n c : Nat) (t : TypeId) (hn : l.length = n) : SV (w.alloc (.cells (l.map Value.string).toArray t)) (some ⟨w.heap.size, 0, none⟩) n c l := by
  refine ⟨hn, fun h => (by cases h), fun i s hs => ⟨w.heap.size, rfl, ?_⟩⟩
  have h := heap_alloc_new w (.cells (l.map Value.string).toArray t)
  unfold World.cell?
  rw [show (⟨w.heap.size, i, none⟩ : Addr).block = w.heap.size from rfl, h]
  simp [hs]
theorem Px.alloc {b : Nat} {w w' : World} (h : Px b w w') (o : Obj) : Px b w (w'.alloc o) := h.trans (Px.below ((Below.refl w'.heap.size w').alloc (Nat.le_refl _) o) (Nat.le_refl _))

set_option maxRecDepth 100000 in
set_option maxHeartbeats 2000000 in
/-- A reader is made. -/
theorem open_any {w : World} {p : Option Addr} {n c : Nat} {zs : List Int} (hl : zs.length = n) (hn : n ≤ 100000000) (hz : ∀ z ∈ zs, 0 ≤ z ∧ z ≤ 255) (hp : ∀ g o s, p = some ⟨g, o, s⟩ → n = 0 ∨ g < w.heap.size) (hv : Vals w p (u8s zs)) (hc : n ≤ c) :
    Calls Tryd.prog 10 #[.slice p n c] w fun e w' => e = .returned (.pointer (some ⟨w.heap.size, 0, none⟩)) ∧ Rd w' w.heap.size 0 ∧ Below w.heap.size w w' := by
  have key : ∀ (m d : Nat) (ys : List Int), ys.length = m → m ≤ 2000 → m ≤ n → (∀ z ∈ ys, 0 ≤ z ∧ z ≤ 255) → Vals w p (u8s ys) → Rd (w.alloc (.cells #[.slice p m d, .int .i64 0] 53)) w.heap.size 0 := by
    intro m d ys h1 h2 h5 h3 h4
    have hb := (Below.refl w.heap.size w).alloc (Nat.le_refl _) (.cells #[.slice p m d, .int .i64 0] 53)
    exact ⟨p, m, d, ys, 0, heap_alloc_new w _, Nat.le_refl _, h1, h2, h3, fun g o s e => (hp g o s e).imp (fun h => by omega) id, h4.kept (Kept.of_below hb (Nat.le_refl _))⟩
  by_cases h : n ≤ 2000
  · have HK := hid (key n c zs hl h (Nat.le_refl _) hz hv)
    clear hl hz hp hv key
    go_enter Tryd.func10, Tryd.ntmps10
    go_wp2_with fail
    go_ret
    exact ⟨rfl, HK.out, (Below.refl _ _).alloc (Nat.le_refl _) _⟩
  · have HK := hid (key 2000 c (zs.take 2000) (by rw [List.length_take]; omega) (Nat.le_refl _) (by omega) (fun z h => hz z (List.mem_of_mem_take h)) (fun i v hi => hv i v (by
      simp only [u8s, List.getElem?_map, List.getElem?_take] at hi ⊢
      split at hi
      · exact hi
      · simp at hi)))
    have h2 : 2000 < n := by omega
    clear hl hz hp hv key h
    go_enter Tryd.func10, Tryd.ntmps10
    go_wp2_with fail
    go_ret
    exact ⟨rfl, HK.out, (Below.refl _ _).alloc (Nat.le_refl _) _⟩
end Go.Proofs.YtgogoekfidbpdaaDoor
