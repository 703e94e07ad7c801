/- Merged: MvP, MvA. -/
import Derived.Test.YtmjhfekcbagibaaGreatDoorEV12
import Derived.Test.YtmjhfekcbagibaaGreatDoorEV16
import Derived.Test.YtmjhfekcbagibaaGreatDoorEV11
import Derived.Test.YtmjhfekcbagibaaGreatDoorEVSSvP
import Derived.Test.YtmjhfekcbagibaaGreatDoorEV13
namespace Go.Proofs.YtmjhfekcbagibaaGreatDoor
open Go.RowKit

/-- The names of an environment as the model keeps them, the outermost first. -/
def nsV (env : List (ByteArray × Sv)) : List ByteArray := (env.map fun x => x.1).reverse
theorem nsV_cons (x : ByteArray) (v : Sv) (env : List (ByteArray × Sv)) : nsV ((x, v) :: env) = nsV env ++ [x] := by simp [nsV]
theorem nsV_len (env : List (ByteArray × Sv)) : (nsV env).length = env.length := by simp [nsV]
/-- Where an environment's names and its values' cells lie; 'S': in which blocks. -/
structure NvAt (S : Nat → Prop) (w : World) (env : List (ByteArray × Sv)) (np : Option Addr) (n nc gv vc : Nat) (C : Nat → List Value) : Prop where
  len : env.length = n
  nms : SV w np n nc (nsV env)
  nof : ∀ g o, np = some ⟨g, o, none⟩ → S g
  nlt : ∀ g o, np = some ⟨g, o, none⟩ → g < w.heap.size
  voff : S gv
  vlt : gv < w.heap.size
  row : ∀ i, i < n → (C i).length = 7 ∧ ∀ j u, (C i)[j]? = some u → w.cell? ⟨gv, i * 7 + j, none⟩ = some u
  nmb : ∀ x ∈ env, nameB x.1.toList = true
def kBit : ByteArray := ⟨#[98, 105, 116]⟩
def kPair : ByteArray := ⟨#[112, 97, 105, 114]⟩
def kFun : ByteArray := ⟨#[102, 117, 110]⟩
theorem kBit_l : kBit.toList = [98, 105, 116] := by rw [Go.ByteArray.toList_eq]; rfl
theorem kPair_l : kPair.toList = [112, 97, 105, 114] := by rw [Go.ByteArray.toList_eq]; rfl
theorem kFun_l : kFun.toList = [102, 117, 110] := by rw [Go.ByteArray.toList_eq]; rfl
/-- The seven cells of a value; 'w0': where the expressions' trees lie; 'S': in which blocks the value's rows lie. -/
inductive MvIn (S : Nat → Prop) (w0 w : World) : Sv → List Value → Prop
  | bit (n : Nat) : MvIn S w0 w (.bit n) [.string kBit, .int .i64 (n : Int), .slice none 0 0, .string ByteArray.empty, .slice none 0 0, .slice none 0 0, .slice none 0 0]
  | pair (a b : Sv) (ca cb : List Value) (g c : Nat) (hg : S g) (hla : ca.length = 7) (hlb : cb.length = 7)
      (hra : ∀ j u, ca[j]? = some u → w.cell? ⟨g, 0 * 7 + j, none⟩ = some u) (hrb : ∀ j u, cb[j]? = some u → w.cell? ⟨g, 1 * 7 + j, none⟩ = some u)
      (ha : MvIn S w0 w a ca) (hb : MvIn S w0 w b cb) : MvIn S w0 w (.pair a b) [.string kPair, .int .i64 0, .slice (some ⟨g, 0, none⟩) 2 c, .string ByteArray.empty, .slice none 0 0, .slice none 0 0, .slice none 0 0]
  | clo (x : ByteArray) (s : STy) (e : Sx) (env : List (ByteArray × Sv)) (h : Hd) (np : Option Addr) (n nc gv vc : Nat) (C : Nat → List Value) (ht : TIn w0 (fun _ => True) (Sx.lam x s e).tree h) (hwf : (Sx.lam x s e).wf)
      (hat : NvAt S w env np n nc gv vc C) (hv : ∀ (i : Nat) (y : ByteArray) (v : Sv), env.reverse[i]? = some (y, v) → MvIn S w0 w v (C i)) :
      MvIn S w0 w (.clo x s e env) [.string kFun, .int .i64 0, .slice none 0 0, .string h.a, .slice h.p h.l h.c, .slice np n nc, .slice (some ⟨gv, 0, none⟩) n vc]
/-- An environment in the model's memory. -/
def EmIn (S : Nat → Prop) (w0 w : World) (env : List (ByteArray × Sv)) (np : Option Addr) (n nc gv vc : Nat) : Prop :=
  ∃ C, NvAt S w env np n nc gv vc C ∧ ∀ (i : Nat) (y : ByteArray) (v : Sv), env.reverse[i]? = some (y, v) → MvIn S w0 w v (C i)
/-- The blocks of S have not turned. -/
structure SKept (S S' : Nat → Prop) (w w' : World) : Prop where
  blk : ∀ k, S k → k < w.heap.size → w'.heap[k]? = w.heap[k]?
  sub : ∀ k, S k → k < w.heap.size → S' k
  siz : w.heap.size ≤ w'.heap.size
theorem SKept.cell {S S' : Nat → Prop} {w w' : World} {g i : Nat} {u : Value} (h : SKept S S' w w') (hg : S g) (hc : w.cell? ⟨g, i, none⟩ = some u) : w'.cell? ⟨g, i, none⟩ = some u :=
  (World.cell?_of_block (w := w) (a := ⟨g, i, none⟩) (h.blk g hg (World.block_lt_of_cell? w _ hc))).trans hc
theorem NvAt.keep {S S' : Nat → Prop} {w w' : World} {env : List (ByteArray × Sv)} {np : Option Addr} {n nc gv vc : Nat} {C : Nat → List Value} (h : NvAt S w env np n nc gv vc C) (hk : SKept S S' w w') : NvAt S' w' env np n nc gv vc C :=
  ⟨h.len, ⟨h.nms.1, h.nms.2.1, fun i s hs => let ⟨g, e, hc⟩ := h.nms.2.2 i s hs; ⟨g, e, hk.cell (h.nof g 0 e) hc⟩⟩, fun g o e => hk.sub g (h.nof g o e) (h.nlt g o e), fun g o e => Nat.lt_of_lt_of_le (h.nlt g o e) hk.siz, hk.sub gv h.voff h.vlt, Nat.lt_of_lt_of_le h.vlt hk.siz, fun i hi => ⟨(h.row i hi).1, fun j u hj => hk.cell h.voff ((h.row i hi).2 j u hj)⟩, h.nmb⟩
theorem MvIn.keep {S S' : Nat → Prop} {w0 w w' : World} {v : Sv} {cs : List Value} (h : MvIn S w0 w v cs) (hk : SKept S S' w w') : MvIn S' w0 w' v cs := by
  induction h with
  | bit n => exact .bit n
  | pair a b ca cb g c hS hla hlb hra hrb _ _ iha ihb => exact .pair a b ca cb g c (hk.sub g hS (World.block_lt_of_cell? w _ (hra 0 _ (List.getElem?_eq_getElem (by omega))))) hla hlb (fun j u hj => hk.cell hS (hra j u hj)) (fun j u hj => hk.cell hS (hrb j u hj)) iha ihb
  | clo x s e env h np n nc gv vc C ht hwf hat _ ih => exact .clo x s e env h np n nc gv vc C ht hwf (hat.keep hk) ih
theorem EmIn.keep {S S' : Nat → Prop} {w0 w w' : World} {env : List (ByteArray × Sv)} {np : Option Addr} {n nc gv vc : Nat} (h : EmIn S w0 w env np n nc gv vc) (hk : SKept S S' w w') : EmIn S' w0 w' env np n nc gv vc := by
  obtain ⟨C, h1, h2⟩ := h
  exact ⟨C, h1.keep hk, fun i y v hi => (h2 i y v hi).keep hk⟩
theorem skept_grown {S S' : Nat → Prop} {w w' : World} {rb : Nat} (hg : w.grownBy w' (some rb)) (hr : ∀ k, S k → k ≠ rb) (hs : ∀ k, S k → S' k) : SKept S S' w w' :=
  ⟨fun k hk hl => hg.block k hl (fun e => hr k hk (by first | exact (Option.some.inj e).symm | exact Option.some.inj e)), fun k h _ => hs k h, hg.size⟩
theorem below_grown {w w' : World} {rb : Nat} (h : Below w.heap.size w w') : w.grownBy w' (some rb) := Below.grownBy h (Nat.le_refl _)
/-- Seven cells of these kinds. -/
theorem MvIn.seven {S : Nat → Prop} {w0 w : World} {v : Sv} {cs : List Value} (h : MvIn S w0 w v cs) : ∃ (k : ByteArray) (n : Int) (pp : Option Addr) (pl pc : Nat) (fa : ByteArray) (fp : Option Addr) (fl fc : Nat) (np : Option Addr) (nl nc : Nat) (vp : Option Addr) (vl vc : Nat),
    cs = [.string k, .int .i64 n, .slice pp pl pc, .string fa, .slice fp fl fc, .slice np nl nc, .slice vp vl vc] := by
  cases h with
  | bit n => exact ⟨_, _, _, _, _, _, _, _, _, _, _, _, _, _, _, rfl⟩
  | pair a b ca cb g c => exact ⟨_, _, _, _, _, _, _, _, _, _, _, _, _, _, _, rfl⟩
  | clo x s e env h np n nc gv vc C => exact ⟨_, _, _, _, _, _, _, _, _, _, _, _, _, _, _, rfl⟩
/-- The run's block of the model: fuel, state, failed. -/
def MRun (w : World) (rb : Nat) (r : R7) : Prop := w.heap[rb]? = some (.cells #[.int .i64 (r.fuel : Int), .int .i64 (r.bit : Int), .bool r.failed] 38 (0, 0))
theorem mrun_cells {w : World} {rb : Nat} {r : R7} (h : MRun w rb r) : w.cell? ⟨rb, 0, none⟩ = some (.int .i64 (r.fuel : Int)) ∧ w.cell? ⟨rb, 1, none⟩ = some (.int .i64 (r.bit : Int)) ∧ w.cell? ⟨rb, 2, none⟩ = some (.bool r.failed) ∧
    w.frozen? ⟨rb, 0, none⟩ = false ∧ w.frozen? ⟨rb, 1, none⟩ = false ∧ w.frozen? ⟨rb, 2, none⟩ = false := by
  simp only [MRun] at h
  simp [World.cell?, World.frozen?, h]
theorem mrun_set {w : World} {rb : Nat} {r : R7} (h : MRun w rb r) : (∀ n : Nat, MRun (w.setCell ⟨rb, 0, none⟩ (.int .i64 (n : Int))) rb ⟨n, r.bit, r.failed⟩) ∧ (∀ n : Nat, MRun (w.setCell ⟨rb, 1, none⟩ (.int .i64 (n : Int))) rb ⟨r.fuel, n, r.failed⟩) ∧ MRun (w.setCell ⟨rb, 2, none⟩ (.bool true)) rb ⟨r.fuel, r.bit, true⟩ := by
  simp only [MRun] at h ⊢
  have hlt := lt_of_block h
  have h' : w.heap[rb] = .cells #[.int .i64 (r.fuel : Int), .int .i64 (r.bit : Int), .bool r.failed] 38 (0, 0) := by simpa [Array.getElem?_eq_getElem hlt] using h
  refine ⟨fun n => ?_, fun n => ?_, ?_⟩
  all_goals
    show (w.heap.modify rb _)[rb]? = _
    rw [Array.getElem?_eq_getElem (by simpa using hlt), Array.getElem_modify_self, h']; rfl
theorem mrun_under {w w' : World} {rb : Nat} {r : R7} (h : MRun w rb r) (hb : Below w.heap.size w w') : MRun w' rb r := block_below h hb (lt_of_block h)
theorem setCell_grown {w : World} {rb i : Nat} (v : Value) : w.grownBy (w.setCell ⟨rb, i, none⟩ v) (some rb) :=
  ⟨rfl, rfl, rfl, by simp, fun k _ hk => Below.heap_setCell _ _ _ _ (by show k ≠ rb; intro e; exact hk (by rw [e]))⟩
/-- What an evaluation leaves. -/
def MvPost (S : Nat → Prop) (w0 : World) (rb : Nat) (x : Option Sv × R7) (w : World) (e : Ending) (w' : World) : Prop :=
  w.grownBy w' (some rb) ∧ MRun w' rb x.2 ∧ match x.1 with
    | some v => ∃ cs, e = .returned (.tuple #[.agg cs.toArray, .bool true]) ∧ MvIn (fun k => S k ∨ w.heap.size ≤ k) w0 w' v cs
    | none => ∃ (k : ByteArray) (n : Int) (pp : Option Addr) (pl pc : Nat) (fa : ByteArray) (fp : Option Addr) (fl fc : Nat) (np : Option Addr) (nl nc : Nat) (vp : Option Addr) (vl vc : Nat), e = .returned (.tuple #[.agg #[.string k, .int .i64 n, .slice pp pl pc, .string fa, .slice fp fl fc, .slice np nl nc, .slice vp vl vc], .bool false])
theorem rev_at {env : List (ByteArray × Sv)} {k : Nat} (h : k < env.length) : ∃ y u, env.reverse[k]? = some (y, u) ∧ (nsV env)[k]? = some y ∧ env.drop (env.length - (k + 1)) = (y, u) :: env.drop (env.length - k) := by
  obtain ⟨x, hx⟩ : ∃ x, env[env.length - 1 - k]? = some x := ⟨_, List.getElem?_eq_getElem (by omega)⟩
  obtain ⟨y, u⟩ := x
  have hr : env.reverse[k]? = some (y, u) := by rw [List.getElem?_reverse h]; exact hx
  refine ⟨y, u, hr, ?_, ?_⟩
  · unfold nsV
    rw [← List.map_reverse, List.getElem?_map, hr]; rfl
  · have e := List.getElem?_eq_some_iff.1 hx
    have h1 : env.length - (k + 1) = env.length - 1 - k := by omega
    rw [h1, List.drop_eq_getElem_cons e.1, e.2]
    congr 2; omega
theorem alloc_cell {w : World} {b i : Nat} {u : Value} (h : w.cell? ⟨b, i, none⟩ = some u) : ∀ o, (w.alloc o).cell? ⟨b, i, none⟩ = some u := fun o =>
  (World.cell?_of_block (w := w) (heap_alloc_old w o (World.block_lt_of_cell? w _ h))).trans h
theorem cells_of_7 {w : World} {b : Nat} {x0 x1 x2 x3 x4 x5 x6 : Value} {t : TypeId} (h : w.heap[b]? = some (.cells #[x0, x1, x2, x3, x4, x5, x6] t (0, 0))) :
    (w.cell? ⟨b, 0, none⟩ = some x0 ∧ w.cell? ⟨b, 1, none⟩ = some x1 ∧ w.cell? ⟨b, 2, none⟩ = some x2 ∧ w.cell? ⟨b, 3, none⟩ = some x3 ∧ w.cell? ⟨b, 4, none⟩ = some x4 ∧ w.cell? ⟨b, 5, none⟩ = some x5 ∧ w.cell? ⟨b, 6, none⟩ = some x6) ∧ (w.frozen? ⟨b, 0, none⟩ = false ∧ w.frozen? ⟨b, 1, none⟩ = false ∧ w.frozen? ⟨b, 2, none⟩ = false ∧ w.frozen? ⟨b, 3, none⟩ = false ∧ w.frozen? ⟨b, 4, none⟩ = false ∧ w.frozen? ⟨b, 5, none⟩ = false ∧ w.frozen? ⟨b, 6, none⟩ = false) := by
  simp [World.cell?, World.frozen?, h]
/-- Seven cells set one behind the other. -/
theorem set7_below {base : Nat} {w w2 : World} {b : Nat} (h : Below base w w2) (hb : base ≤ b) (x0 x1 x2 x3 x4 x5 x6 : Value) :
    Below base w (((((((w2.setCell ⟨b, 0, none⟩ x0).setCell ⟨b, 1, none⟩ x1).setCell ⟨b, 2, none⟩ x2).setCell ⟨b, 3, none⟩ x3).setCell ⟨b, 4, none⟩ x4).setCell ⟨b, 5, none⟩ x5).setCell ⟨b, 6, none⟩ x6) :=
  ((((((h.setCell hb _).setCell hb _).setCell hb _).setCell hb _).setCell hb _).setCell hb _).setCell hb _
end Go.Proofs.YtmjhfekcbagibaaGreatDoor

namespace Go.Proofs.YtmjhfekcbagibaaGreatDoor
open Go.RowKit

theorem empty_bytes : ByteArray.empty = ({ data := #[] } : ByteArray) := rfl
set_option maxRecDepth 100000 in
set_option maxHeartbeats 1000000 in
theorem l7Bit_any (n : Int) (w : World) : Calls Tryz.prog 17 #[.int .i64 n] w fun e w' => e = .returned (.agg #[.string ({ data := #[98, 105, 116] } : ByteArray), .int .i64 n, .slice none 0 0, .string ({ data := #[] } : ByteArray), .slice none 0 0, .slice none 0 0, .slice none 0 0]) ∧ Below w.heap.size w w' := by
  go_enter Tryz.func17, Tryz.ntmps17
  go_wp2
  refine bodyPost_ret (v := .agg #[.string ({ data := #[98, 105, 116] } : ByteArray), .int .i64 n, .slice none 0 0, .string ({ data := #[] } : ByteArray), .slice none 0 0, .slice none 0 0, .slice none 0 0]) (by simp [results, Tryz.results17, go_sem]) rfl ?_
  exact ⟨rfl, (Below.refl _ _).alloc (Nat.le_refl _) _⟩

set_option maxRecDepth 100000 in
set_option maxHeartbeats 2000000 in
theorem l7Atom_name {S : Nat → Prop} {w0 : World} {env : List (ByteArray × Sv)} {np : Option Addr} {n nc gv vc : Nat} {s : ByteArray} {v : Sv} {w : World} (he : EmIn S w0 w env np n nc gv vc) (hn : n ≤ 400000000) (hl : vLook env s.toList = some v) :
    Calls Tryz.prog 16 #[.string s, .slice np n nc, .slice (some ⟨gv, 0, none⟩) n vc] w fun e w' => ∃ cs, e = .returned (.agg cs.toArray) ∧ MvIn S w0 w v cs ∧ Below w.heap.size w w' := by
  obtain ⟨C, hat, hv⟩ := he
  have HAT := hid hat
  have HV := hid hv
  have HL := hid (show vLook (env.drop (env.length - n)) s.toList = some v by rw [hat.len, Nat.sub_self]; exact hl)
  clear hat hv hl
  go_enter Tryz.func16, Tryz.ntmps16
  go_wp2_with fail
  go_loop [7] (fun u => ∃ i : Nat, i ≤ n ∧ u = .int .i64 ((i : Int) - 1) ∧ Hid (vLook (env.drop (env.length - i)) s.toList = some v)) (fun u => (intOf u + 1).toNat)
  case atStart => exact ⟨n, Nat.le_refl _, by go_num, HL⟩
  case round =>
    obtain ⟨i, hi, rfl, hL⟩ := hrel
    have hlen := HAT.out.len
    cases i with
    | zero =>
      exfalso
      have := hL.out
      rw [Nat.sub_zero, List.drop_length] at this
      simp [vLook] at this
    | succ k =>
      have hk1 : ((k + 1 : Nat) : Int) - 1 = (k : Int) := by omega
      rw [hk1]
      obtain ⟨y, u, hr, hy, hd⟩ := rev_at (env := env) (k := k) (by omega)
      have hLL := hL.out
      rw [hd, vLook] at hLL
      obtain ⟨b1, rfl, hc1⟩ := HAT.out.nms.2.2 k _ hy
      have a1 := alloc_cell hc1
      have hlt : k < n := by omega
      clear hc1
      cases he : y.toList == s.toList with
      | true =>
        rw [he] at hLL
        obtain rfl : u = v := by simpa using hLL
        have hm := HV.out k y u hr
        obtain ⟨kk, nn, pp, pl, pc, fa, fp, fl, fc, np2, nl, nc2, vp, vl, vc2, hcs⟩ := hm.seven
        have hrow := (HAT.out.row k hlt).2
        rw [hcs] at hrow hm
        have r0 := alloc_cell (hrow 0 _ rfl)
        have r1 := alloc_cell (hrow 1 _ rfl)
        have r2 := alloc_cell (hrow 2 _ rfl)
        have r3 := alloc_cell (hrow 3 _ rfl)
        have r4 := alloc_cell (hrow 4 _ rfl)
        have r5 := alloc_cell (hrow 5 _ rfl)
        have r6 := alloc_cell (hrow 6 _ rfl)
        simp only [Nat.add_zero] at r0
        have HM := hid hm
        clear hrow hm hLL hd hr hy hL hk1 hlen hcs
        go_wp2_with fail
        refine bodyPost_ret (v := .agg #[.string kk, .int .i64 nn, .slice pp pl pc, .string fa, .slice fp fl fc, .slice np2 nl nc2, .slice vp vl vc2]) (by simp [results, Tryz.results16, go_sem]) rfl ?_
        exact ⟨_, rfl, HM.out, (Below.refl _ _).alloc (Nat.le_refl _) _⟩
      | false =>
        rw [he] at hLL
        have HL2 := hid (show vLook (env.drop (env.length - k)) s.toList = some v by simpa using hLL)
        clear hLL hd hr hy hL hk1 hlen
        go_wp2_with fail
        go_round
        case rel => exact ⟨k, by omega, by go_num, HL2⟩
        case measure => simp [intOf]

/-- What a bit's atom stands for: no name is one. -/
theorem l7Atom_bit {S : Nat → Prop} {w0 : World} {env : List (ByteArray × Sv)} {np : Option Addr} {n nc gv vc k : Nat} {s : ByteArray} {w : World} (he : EmIn S w0 w env np n nc gv vc) (hn : n ≤ 400000000) (hs : nameB s.toList = false) (hk : (s.toList = [48] ∧ k = 0) ∨ (s.toList = [49] ∧ k = 1)) :
    Calls Tryz.prog 16 #[.string s, .slice np n nc, .slice (some ⟨gv, 0, none⟩) n vc] w fun e w' => e = .returned (.agg #[.string ({ data := #[98, 105, 116] } : ByteArray), .int .i64 (k : Int), .slice none 0 0, .string ({ data := #[] } : ByteArray), .slice none 0 0, .slice none 0 0, .slice none 0 0]) ∧ Below w.heap.size w w' := by
  obtain ⟨C, hat, hv⟩ := he
  have HAT := hid hat
  have HB := hid (fun (m : Int) (W : World) => l7Bit_any m W)
  have HK := hid hk
  have HS := hid hs
  clear hat hv hk hs
  go_enter Tryz.func16, Tryz.ntmps16
  go_wp2_with fail
  go_loop [7] (fun u => ∃ i : Nat, i ≤ n ∧ u = .int .i64 ((i : Int) - 1)) (fun u => (intOf u + 1).toNat)
  case atStart => exact ⟨n, Nat.le_refl _, by go_num⟩
  case round =>
    obtain ⟨i, hi, rfl⟩ := hrel
    cases i with
    | zero =>
      rcases HK.out with ⟨h1, h2⟩ | ⟨h1, h2⟩
      · have h3 : (s.toList == [49]) = false := by rw [h1]; rfl
        subst h2
        clear h1
        go_wp2_with (go_at_call 17; refine (HB.out _ _).mono ?_; rintro e w2 ⟨rfl, hb2⟩; obtain ⟨⟨f0, f1, f2, f3, f4, f5, f6⟩, g0, g1, g2, g3, g4, g5, g6⟩ := cells_of_7 (block_below (heap_new w (.cells #[.string ({ data := #[] } : ByteArray), .int .i64 0, .slice none 0 0, .string ({ data := #[] } : ByteArray), .slice none 0 0, .slice none 0 0, .slice none 0 0] 34) w.heap.size rfl) hb2 (by simp)); have HB2 := hid hb2; clear hb2)
        refine bodyPost_ret (v := .agg #[.string ({ data := #[98, 105, 116] } : ByteArray), .int .i64 0, .slice none 0 0, .string ({ data := #[] } : ByteArray), .slice none 0 0, .slice none 0 0, .slice none 0 0]) (by simp [results, Tryz.results16, go_sem, f0, f1, f2, f3, f4, f5, f6]) rfl ?_
        exact ⟨rfl, set7_below (((Below.refl _ _).alloc (Nat.le_refl _) _).trans (HB2.out.mono (by simp))) (Nat.le_refl _) _ _ _ _ _ _ _⟩
      · have h3 : (s.toList == [49]) = true := by rw [h1]; rfl
        subst h2
        clear h1
        go_wp2_with (go_at_call 17; refine (HB.out _ _).mono ?_; rintro e w2 ⟨rfl, hb2⟩; obtain ⟨⟨f0, f1, f2, f3, f4, f5, f6⟩, g0, g1, g2, g3, g4, g5, g6⟩ := cells_of_7 (block_below (heap_new w (.cells #[.string ({ data := #[] } : ByteArray), .int .i64 0, .slice none 0 0, .string ({ data := #[] } : ByteArray), .slice none 0 0, .slice none 0 0, .slice none 0 0] 34) w.heap.size rfl) hb2 (by simp)); have HB2 := hid hb2; clear hb2)
        refine bodyPost_ret (v := .agg #[.string ({ data := #[98, 105, 116] } : ByteArray), .int .i64 1, .slice none 0 0, .string ({ data := #[] } : ByteArray), .slice none 0 0, .slice none 0 0, .slice none 0 0]) (by simp [results, Tryz.results16, go_sem, f0, f1, f2, f3, f4, f5, f6]) rfl ?_
        exact ⟨rfl, set7_below (((Below.refl _ _).alloc (Nat.le_refl _) _).trans (HB2.out.mono (by simp))) (Nat.le_refl _) _ _ _ _ _ _ _⟩
    | succ k =>
      have hk1 : ((k + 1 : Nat) : Int) - 1 = (k : Int) := by omega
      rw [hk1]
      obtain ⟨y, u, hr, hy, hd⟩ := rev_at (env := env) (k := k) (by have := HAT.out.len; omega)
      obtain ⟨b1, rfl, hc1⟩ := HAT.out.nms.2.2 k _ hy
      have a1 := alloc_cell hc1
      have hlt : k < n := by omega
      have hyn : (y.toList == s.toList) = false := by
        have h1 := HAT.out.nmb (y, u) (List.mem_reverse.1 (List.mem_of_getElem? hr))
        cases h : y.toList == s.toList with
        | false => rfl
        | true =>
          have h2 : y.toList = s.toList := by simpa using h
          simp only at h1
          rw [h2, HS.out] at h1; cases h1
      clear hd hr hy hk1 hc1
      go_wp2_with fail
      go_round
      case rel => exact ⟨k, by omega, by go_num⟩
      case measure => simp [intOf]
end Go.Proofs.YtmjhfekcbagibaaGreatDoor
