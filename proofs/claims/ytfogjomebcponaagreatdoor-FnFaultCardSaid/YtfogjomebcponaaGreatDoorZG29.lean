/- Merged: FromV, FromN, FromW, FromY. -/
import Derived.Test.YtfogjomebcponaaGreatDoorZGSFromU
namespace Go.Proofs.YtfogjomebcponaaGreatDoor
open Go.RowKit
set_option maxRecDepth 100000
set_option maxHeartbeats 4000000
theorem below_now {w W w1 : World} (h1 : Below W.heap.size W w1) (h : Below w.heap.size w W) : Below w.heap.size w w1 := h.trans (h1.mono h.size)
theorem cell_alloc_kept {w : World} {a : Addr} {v : Value} (h : w.cell? a = some v) (o : Obj) : (w.alloc o).cell? a = some v := (World.cell?_of_block (w := w) (heap_alloc_old w o (World.block_lt_of_cell? w _ h))).trans h
theorem from_try_yes {b : Nat} {x2 x3 x5 : Value} {t : TypeId} (hd a : ByteArray) (ty : Option Ty) (env : List (ByteArray × Ty)) (u : Ty) (y : Ty) (pe p : Option Addr) (n c : Nat) (w : World) (hb : w.heap[b]? = some (.cells #[.string hd, .string a, x2, x3, tyV ty, x5] t (0, 0))) (hh : hd.toList = [116, 114, 121])
    (hn : 2 = n) (hv : Vals w p (([.ret u, y] : List Ty).map Ty.val)) (hx : (Ty.ret u).atoms ≤ 12) (hy : y.atoms ≤ 12) : Calls Tryz.prog 152 #[.pointer (some ⟨b, 0, none⟩), .slice p n c, .pointer pe] w (Fro (joinT hd.toList ty a.toList env (some (.ret u)) (some y) none) w) := by
 have c0 := (ces hb).1
 have e0 : (hd.toList == [110, 97, 109, 101]) = false := by rw [hh]; rfl
 have e1 : (hd.toList == [98, 105, 116]) = false := by rw [hh]; rfl
 have e2 : (hd.toList == [112, 97, 105, 114]) = false := by rw [hh]; rfl
 have e3 : (hd.toList == [116, 104, 117, 110, 107]) = false := by rw [hh]; rfl
 have e4 : (hd.toList == [114, 101, 116, 117, 114, 110]) = false := by rw [hh]; rfl
 have e5 : (hd.toList == [116, 111]) = false := by rw [hh]; rfl
 have e6 : (hd.toList == [115, 112, 108, 105, 116]) = false := by rw [hh]; rfl
 have e7 : (hd.toList == [102, 111, 114, 99, 101]) = false := by rw [hh]; rfl
 have e8 : (hd.toList == [108, 97, 109]) = false := by rw [hh]; rfl
 have e9 : (hd.toList == [97, 112, 112]) = false := by rw [hh]; rfl
 have e10 : (hd.toList == [105, 102]) = false := by rw [hh]; rfl
 have e11 : (hd.toList == [98, 111, 116, 104]) = false := by rw [hh]; rfl
 have e12 : (hd.toList == [102, 115, 116]) = false := by rw [hh]; rfl
 have e13 : (hd.toList == [115, 110, 100]) = false := by rw [hh]; rfl
 have e14 : (hd.toList == [103, 101, 116]) = false := by rw [hh]; rfl
 have e15 : (hd.toList == [112, 117, 116]) = false := by rw [hh]; rfl
 have e16 : (hd.toList == [102, 97, 105, 108]) = false := by rw [hh]; rfl
 have e17 : (hd.toList == [116, 114, 121]) = true := by rw [hh]; rfl
 obtain ⟨vb, vo, rfl, hc0⟩ := vas hv
 have hc1 := van hv 1 rfl
 have i0 : 0 < n := by omega
 have i1 : 1 < n := by omega
 have HJ := hid (show joinT hd.toList ty a.toList env (some (.ret u)) (some y) none = if (Ty.ret u).write = y.write then some (.ret u) else none by rw [hh]; rfl)
 have hl0 := World.block_lt_of_cell? w _ hc0
 have HS := hid (fun W => sameType_any (.ret u) y (sma hx (by omega)) (sma hy (by omega)) W)
 simp only [Ty.val] at hc0 HS
 obtain ⟨ny, vy, hy⟩ := y.val_iface
 rw [hy] at hc1
 have Hy := hid hy
 clear hy
 obtain ⟨nu, vu, hu⟩ := u.val_iface
 rw [hu] at hc0
 have Hu := hid hu
 clear hu
 have has1 := as_ret_ret (.agg #[.iface nu vu])
 rw [Hu.out, Hy.out] at HS
 obtain ⟨W0, hW0⟩ : ∃ W0, W0 = w.alloc (.cells #[.iface nu vu] 127) := ⟨_, rfl⟩
 have hs0 : W0.heap.size = w.heap.size + 1 := by rw [hW0]; simp
 have hb0 : Below w.heap.size w W0 := by rw [hW0]; exact (Below.refl _ _).alloc (Nat.le_refl _) _
 have kd0 := (hb0.cell (p := ⟨vb, vo, none⟩) hl0).trans hc0
 have kd1 := (hb0.cell (p := ⟨vb, vo + 1, none⟩) hl0).trans hc1
 have KC := hid (fun (W : World) (h : Below W0.heap.size W0 W) => (show W.cell? ⟨vb, vo, none⟩ = _ ∧ W.cell? ⟨vb, vo + 1, none⟩ = _ from ⟨(h.cell (p := ⟨vb, vo, none⟩) (World.block_lt_of_cell? W0 _ kd0)).trans kd0, (h.cell (p := ⟨vb, vo + 1, none⟩) (World.block_lt_of_cell? W0 _ kd1)).trans kd1⟩))
 have j0 : (0 : Int) < (n : Int) := by omega
 have j1 : (1 : Int) < (n : Int) := by omega
 have HB0 := hid hb0
 have HS0 := hid hs0
 have HW0 := hid hW0
 clear hb0 hs0 hW0 hb hh hn hv hl0 hx hy
 go_enter Tryz.func152, Tryz.ntmps152
 go_wp2_with fail
 rw [← HW0.out]
 go_region_held3 (fun w' => w'.cell? ⟨vb, vo, none⟩ = some (.iface 127 (.agg #[.iface nu vu])) ∧ w'.cell? ⟨vb, vo + 1, none⟩ = some (.iface ny vy) ∧ Below W0.heap.size W0 w')
  (first | exact ⟨kd0, kd1, (Below.refl _ _).drew⟩ | exact ⟨k1.1, k1.2, HB1.out⟩)
  (first | (go_at_call 160; refine (HS.out _).mono ?_; rintro e w1 ⟨rfl, hb1⟩; go_split_ands; have hb01 := below_now hb1 (by assumption); have k1 := KC.out _ hb01; have HB1 := hid hb01; clear hb1 hb01))
 go_wp2_with fail
 go_ret2
 exact fromPost_if HJ.out (by simp only [Ty.val, Hu.out]; rfl) rfl (HB0.out.trans (Below.mono (show Below W0.heap.size W0 _ by assumption) (by have := HS0.out; omega)))
theorem from_if_no {b : Nat} {x2 x3 x5 : Value} {t : TypeId} (hd a : ByteArray) (ty : Option Ty) (env : List (ByteArray × Ty)) (x : Ty) (y : Ty) (z : Ty) (pe p : Option Addr) (n c : Nat) (w : World) (hb : w.heap[b]? = some (.cells #[.string hd, .string a, x2, x3, tyV ty, x5] t (0, 0))) (hh : hd.toList = [105, 102])
    (hn : 3 = n) (hv : Vals w p (([x, y, z] : List Ty).map Ty.val)) (hq : x.isBit = false) : Calls Tryz.prog 152 #[.pointer (some ⟨b, 0, none⟩), .slice p n c, .pointer pe] w (Fro (joinT hd.toList ty a.toList env (some x) (some y) (some z)) w) := by
 have c0 := (ces hb).1
 have e0 : (hd.toList == [110, 97, 109, 101]) = false := by rw [hh]; rfl
 have e1 : (hd.toList == [98, 105, 116]) = false := by rw [hh]; rfl
 have e2 : (hd.toList == [112, 97, 105, 114]) = false := by rw [hh]; rfl
 have e3 : (hd.toList == [116, 104, 117, 110, 107]) = false := by rw [hh]; rfl
 have e4 : (hd.toList == [114, 101, 116, 117, 114, 110]) = false := by rw [hh]; rfl
 have e5 : (hd.toList == [116, 111]) = false := by rw [hh]; rfl
 have e6 : (hd.toList == [115, 112, 108, 105, 116]) = false := by rw [hh]; rfl
 have e7 : (hd.toList == [102, 111, 114, 99, 101]) = false := by rw [hh]; rfl
 have e8 : (hd.toList == [108, 97, 109]) = false := by rw [hh]; rfl
 have e9 : (hd.toList == [97, 112, 112]) = false := by rw [hh]; rfl
 have e10 : (hd.toList == [105, 102]) = true := by rw [hh]; rfl
 obtain ⟨vb, vo, rfl, hc0⟩ := vas hv
 have hc1 := van hv 1 rfl
 have hc2 := van hv 2 rfl
 have i0 : 0 < n := by omega
 have i1 : 1 < n := by omega
 have i2 : 2 < n := by omega
 have HJ := hid (show joinT hd.toList ty a.toList env (some x) (some y) (some z) = none by rw [hh]; cases x <;> first | rfl | simp [Ty.isBit] at hq)
 have HX := hid (fun W => isBit_any x W)
 have hl := World.block_lt_of_cell? w _ hc1
 obtain ⟨nx, vx, hx⟩ := x.val_iface
 rw [hx] at hc0
 have Hx := hid hx
 clear hx
 obtain ⟨ny, vy, hy⟩ := y.val_iface
 rw [hy] at hc1
 have Hy := hid hy
 clear hy
 obtain ⟨nz, vz, hz⟩ := z.val_iface
 rw [hz] at hc2
 have Hz := hid hz
 clear hz
 rw [Hx.out, hq] at HX
 have j0 : (0 : Int) < (n : Int) := by omega
 have j1 : (1 : Int) < (n : Int) := by omega
 have j2 : (2 : Int) < (n : Int) := by omega
 have KC := hid (fun (W : World) (h : Below w.heap.size w W) => (show W.cell? ⟨vb, vo, none⟩ = _ ∧ W.cell? ⟨vb, vo + 1, none⟩ = _ ∧ W.cell? ⟨vb, vo + 2, none⟩ = _ from ⟨(h.cell (p := ⟨vb, vo, none⟩) hl).trans hc0, (h.cell (p := ⟨vb, vo + 1, none⟩) hl).trans hc1, (h.cell (p := ⟨vb, vo + 2, none⟩) hl).trans hc2⟩))
 clear hb hh hn hv hl hq
 go_enter Tryz.func152, Tryz.ntmps152
 go_wp2_with fail
 refine wp_region_any (by kernel_rfl) ?_
 try (change wpAny _ _ _ _ _ _ _ (World.drew _))
 refine wpAny_take (i := 0) (v := ?v1) rfl (by kernel_rfl) (by kernel_rfl) (by kernel_rfl) (fun _ _ _ h => h) (Or.inl ⟨by rfl, ?y1⟩) ?r1
 case y1 => (intro wq; go_simp; try with_reducible rfl)
 try go_simp
 refine wpAny_take (i := 1) (v := ?v2) rfl (by kernel_rfl) (by kernel_rfl) (by kernel_rfl) (fun _ _ _ h => h) (Or.inl ⟨by rfl, ?y2⟩) ?r2
 case y2 => (intro wq; go_simp; try with_reducible rfl)
 try go_simp
 refine wpAny_take (i := 3) (v := ?v3) rfl (by kernel_rfl) (by kernel_rfl) (by kernel_rfl) (fun _ _ _ h => h) (Or.inl ⟨by rfl, ?y3⟩) ?r3
 case y3 => (intro wq; go_simp; try with_reducible rfl)
 try go_simp
 refine wpAny_take (i := 4) (v := ?v4) rfl (by kernel_rfl) (by kernel_rfl) (by kernel_rfl) (fun _ _ _ h => h) (Or.inl ⟨by rfl, ?y4⟩) ?r4
 case y4 => (intro wq; go_simp; try with_reducible rfl)
 try go_simp
 refine wpAny_ready (rs := [2, 5]) (by kernel_rfl) (by simp) ?_
 refine AllReady.cons rfl (fun K hK => ?_) (AllReady.cons rfl (fun K hK => ?_) AllReady.nil)
 ·go_simp
  refine hK _ _ ?_
  clear hK K
  refine wpAny_ready (rs := [5]) (by kernel_rfl) (by simp) ?_
  refine AllReady.cons rfl (fun K hK => ?_) AllReady.nil
  go_simp
  refine hK _ _ ?_
  clear hK K
  refine wpAny_ready (rs := [6]) (by kernel_rfl) (by simp) ?_
  refine AllReady.cons rfl (fun K hK => ?_) AllReady.nil
  go_simp
  go_wp2_with (go_at_call 161; refine (HX.out _).mono ?_; rintro e w1 ⟨rfl, hb1⟩; have hb01 := (Below.refl w.heap.size w).drew.trans hb1; have k1 := KC.out _ hb01; have HB := hid hb01; clear hb1 hb01)
  refine wpAny_take (i := 7) (v := ?v5) rfl (by kernel_rfl) (by kernel_rfl) (by kernel_rfl) (fun _ _ _ h => h) (Or.inl ⟨by rfl, ?y5⟩) ?r5
  case y5 => (intro wq; go_simp; try with_reducible rfl)
  try go_simp
  refine wpAny_take (i := 8) (v := undef) rfl (by kernel_rfl) (by kernel_rfl) (by kernel_rfl) (fun _ _ _ h => h) (Or.inr ⟨by rfl, rfl⟩) ?_
  try go_simp
  refine wpAny_take (i := 9) (v := undef) rfl (by kernel_rfl) (by kernel_rfl) (by kernel_rfl) (fun _ _ _ h => h) (Or.inr ⟨by rfl, rfl⟩) ?_
  try go_simp
  refine wpAny_take (i := 10) (v := undef) rfl (by kernel_rfl) (by kernel_rfl) (by kernel_rfl) (fun _ _ _ h => h) (Or.inr ⟨by rfl, rfl⟩) ?_
  try go_simp
  refine wpAny_take (i := 11) (v := undef) rfl (by kernel_rfl) (by kernel_rfl) (by kernel_rfl) (fun _ _ _ h => h) (Or.inr ⟨by rfl, rfl⟩) ?_
  try go_simp
  refine wpAny_take (i := 12) (v := undef) rfl (by kernel_rfl) (by kernel_rfl) (by kernel_rfl) (fun _ _ _ h => h) (Or.inr ⟨by rfl, rfl⟩) ?_
  try go_simp
  refine wpAny_take (i := 13) (v := undef) rfl (by kernel_rfl) (by kernel_rfl) (by kernel_rfl) (fun _ _ _ h => h) (Or.inr ⟨by rfl, rfl⟩) ?_
  try go_simp
  refine wpAny_take (i := 14) (v := undef) rfl (by kernel_rfl) (by kernel_rfl) (by kernel_rfl) (fun _ _ _ h => h) (Or.inr ⟨by rfl, rfl⟩) ?_
  try go_simp
  refine wpAny_take (i := 15) (v := ?v6) rfl (by kernel_rfl) (by kernel_rfl) (by kernel_rfl) (fun _ _ _ h => h) (Or.inl ⟨by rfl, ?y6⟩) ?r6
  case y6 => (intro wq; go_simp; try with_reducible rfl)
  try go_simp
  refine wpAny_take (i := 16) (v := ?v7) rfl (by kernel_rfl) (by kernel_rfl) (by kernel_rfl) (fun _ _ _ h => h) (Or.inl ⟨by rfl, ?y7⟩) ?r7
  case y7 => (intro wq; go_simp; try with_reducible rfl)
  try go_simp
  refine wpAny_take (i := 17) (v := ?v8) rfl (by kernel_rfl) (by kernel_rfl) (by kernel_rfl) (fun _ _ _ h => h) (Or.inl ⟨by rfl, ?y8⟩) ?r8
  case y8 => (intro wq; go_simp; try with_reducible rfl)
  try go_simp
  refine wpAny_done (by kernel_rfl) ?_ _
  go_wp2_with fail
  go_ret2
  exact fro HJ.out rfl HB.out
 ·go_simp
  refine hK _ _ ?_
  clear hK K
  refine wpAny_ready (rs := [2, 6]) (by kernel_rfl) (by simp) ?_
  refine AllReady.cons rfl (fun K hK => ?_) (AllReady.cons rfl (fun K hK => ?_) AllReady.nil)
  ·go_simp
   refine hK _ _ ?_
   clear hK K
   refine wpAny_ready (rs := [6]) (by kernel_rfl) (by simp) ?_
   refine AllReady.cons rfl (fun K hK => ?_) AllReady.nil
   go_simp
   go_wp2_with (go_at_call 161; refine (HX.out _).mono ?_; rintro e w1 ⟨rfl, hb1⟩; have hb01 := (Below.refl w.heap.size w).drew.trans hb1; have k1 := KC.out _ hb01; have HB := hid hb01; clear hb1 hb01)
   refine wpAny_take (i := 7) (v := ?v9) rfl (by kernel_rfl) (by kernel_rfl) (by kernel_rfl) (fun _ _ _ h => h) (Or.inl ⟨by rfl, ?y9⟩) ?r9
   case y9 => (intro wq; go_simp; try with_reducible rfl)
   try go_simp
   refine wpAny_take (i := 8) (v := undef) rfl (by kernel_rfl) (by kernel_rfl) (by kernel_rfl) (fun _ _ _ h => h) (Or.inr ⟨by rfl, rfl⟩) ?_
   try go_simp
   refine wpAny_take (i := 9) (v := undef) rfl (by kernel_rfl) (by kernel_rfl) (by kernel_rfl) (fun _ _ _ h => h) (Or.inr ⟨by rfl, rfl⟩) ?_
   try go_simp
   refine wpAny_take (i := 10) (v := undef) rfl (by kernel_rfl) (by kernel_rfl) (by kernel_rfl) (fun _ _ _ h => h) (Or.inr ⟨by rfl, rfl⟩) ?_
   try go_simp
   refine wpAny_take (i := 11) (v := undef) rfl (by kernel_rfl) (by kernel_rfl) (by kernel_rfl) (fun _ _ _ h => h) (Or.inr ⟨by rfl, rfl⟩) ?_
   try go_simp
   refine wpAny_take (i := 12) (v := undef) rfl (by kernel_rfl) (by kernel_rfl) (by kernel_rfl) (fun _ _ _ h => h) (Or.inr ⟨by rfl, rfl⟩) ?_
   try go_simp
   refine wpAny_take (i := 13) (v := undef) rfl (by kernel_rfl) (by kernel_rfl) (by kernel_rfl) (fun _ _ _ h => h) (Or.inr ⟨by rfl, rfl⟩) ?_
   try go_simp
   refine wpAny_take (i := 14) (v := undef) rfl (by kernel_rfl) (by kernel_rfl) (by kernel_rfl) (fun _ _ _ h => h) (Or.inr ⟨by rfl, rfl⟩) ?_
   try go_simp
   refine wpAny_take (i := 15) (v := ?v10) rfl (by kernel_rfl) (by kernel_rfl) (by kernel_rfl) (fun _ _ _ h => h) (Or.inl ⟨by rfl, ?y10⟩) ?r10
   case y10 => (intro wq; go_simp; try with_reducible rfl)
   try go_simp
   refine wpAny_take (i := 16) (v := ?v11) rfl (by kernel_rfl) (by kernel_rfl) (by kernel_rfl) (fun _ _ _ h => h) (Or.inl ⟨by rfl, ?y11⟩) ?r11
   case y11 => (intro wq; go_simp; try with_reducible rfl)
   try go_simp
   refine wpAny_take (i := 17) (v := ?v12) rfl (by kernel_rfl) (by kernel_rfl) (by kernel_rfl) (fun _ _ _ h => h) (Or.inl ⟨by rfl, ?y12⟩) ?r12
   case y12 => (intro wq; go_simp; try with_reducible rfl)
   try go_simp
   refine wpAny_done (by kernel_rfl) ?_ _
   go_wp2_with fail
   go_ret2
   exact fro HJ.out rfl HB.out
  ·go_simp
   go_wp2_with (go_at_call 161; refine (HX.out _).mono ?_; rintro e w1 ⟨rfl, hb1⟩; have hb01 := (Below.refl w.heap.size w).drew.trans hb1; have k1 := KC.out _ hb01; have HB := hid hb01; clear hb1 hb01)
   refine wpAny_take (i := 7) (v := ?v13) rfl (by kernel_rfl) (by kernel_rfl) (by kernel_rfl) (fun _ _ _ h => h) (Or.inl ⟨by rfl, ?y13⟩) ?r13
   case y13 => (intro wq; go_simp; try with_reducible rfl)
   try go_simp
   refine wpAny_take (i := 8) (v := undef) rfl (by kernel_rfl) (by kernel_rfl) (by kernel_rfl) (fun _ _ _ h => h) (Or.inr ⟨by rfl, rfl⟩) ?_
   try go_simp
   refine wpAny_take (i := 9) (v := undef) rfl (by kernel_rfl) (by kernel_rfl) (by kernel_rfl) (fun _ _ _ h => h) (Or.inr ⟨by rfl, rfl⟩) ?_
   try go_simp
   refine wpAny_take (i := 10) (v := undef) rfl (by kernel_rfl) (by kernel_rfl) (by kernel_rfl) (fun _ _ _ h => h) (Or.inr ⟨by rfl, rfl⟩) ?_
   try go_simp
   refine wpAny_take (i := 11) (v := undef) rfl (by kernel_rfl) (by kernel_rfl) (by kernel_rfl) (fun _ _ _ h => h) (Or.inr ⟨by rfl, rfl⟩) ?_
   try go_simp
   refine wpAny_take (i := 12) (v := undef) rfl (by kernel_rfl) (by kernel_rfl) (by kernel_rfl) (fun _ _ _ h => h) (Or.inr ⟨by rfl, rfl⟩) ?_
   try go_simp
   refine wpAny_take (i := 13) (v := undef) rfl (by kernel_rfl) (by kernel_rfl) (by kernel_rfl) (fun _ _ _ h => h) (Or.inr ⟨by rfl, rfl⟩) ?_
   try go_simp
   refine wpAny_take (i := 14) (v := undef) rfl (by kernel_rfl) (by kernel_rfl) (by kernel_rfl) (fun _ _ _ h => h) (Or.inr ⟨by rfl, rfl⟩) ?_
   try go_simp
   refine wpAny_take (i := 15) (v := ?v14) rfl (by kernel_rfl) (by kernel_rfl) (by kernel_rfl) (fun _ _ _ h => h) (Or.inl ⟨by rfl, ?y14⟩) ?r14
   case y14 => (intro wq; go_simp; try with_reducible rfl)
   try go_simp
   refine wpAny_ready (rs := [2]) (by kernel_rfl) (by simp) ?_
   refine AllReady.cons rfl (fun K hK => ?_) AllReady.nil
   go_simp
   refine hK _ _ ?_
   clear hK K
   refine wpAny_take (i := 16) (v := ?v15) rfl (by kernel_rfl) (by kernel_rfl) (by kernel_rfl) (fun _ _ _ h => h) (Or.inl ⟨by rfl, ?y15⟩) ?r15
   case y15 => (intro wq; go_simp; try with_reducible rfl)
   try go_simp
   refine wpAny_take (i := 17) (v := ?v16) rfl (by kernel_rfl) (by kernel_rfl) (by kernel_rfl) (fun _ _ _ h => h) (Or.inl ⟨by rfl, ?y16⟩) ?r16
   case y16 => (intro wq; go_simp; try with_reducible rfl)
   try go_simp
   refine wpAny_done (by kernel_rfl) ?_ _
   go_wp2_with fail
   go_ret2
   exact fro HJ.out rfl HB.out
theorem from_if_yes {b : Nat} {x2 x3 x5 : Value} {t : TypeId} (hd a : ByteArray) (ty : Option Ty) (env : List (ByteArray × Ty)) (x : Ty) (y : Ty) (z : Ty) (pe p : Option Addr) (n c : Nat) (w : World) (hb : w.heap[b]? = some (.cells #[.string hd, .string a, x2, x3, tyV ty, x5] t (0, 0))) (hh : hd.toList = [105, 102])
    (hn : 3 = n) (hv : Vals w p (([x, y, z] : List Ty).map Ty.val)) (hy : y.atoms ≤ 12) (hz : z.atoms ≤ 12) (hq : x.isBit = true) : Calls Tryz.prog 152 #[.pointer (some ⟨b, 0, none⟩), .slice p n c, .pointer pe] w (Fro (joinT hd.toList ty a.toList env (some x) (some y) (some z)) w) := by
 have c0 := (ces hb).1
 have e0 : (hd.toList == [110, 97, 109, 101]) = false := by rw [hh]; rfl
 have e1 : (hd.toList == [98, 105, 116]) = false := by rw [hh]; rfl
 have e2 : (hd.toList == [112, 97, 105, 114]) = false := by rw [hh]; rfl
 have e3 : (hd.toList == [116, 104, 117, 110, 107]) = false := by rw [hh]; rfl
 have e4 : (hd.toList == [114, 101, 116, 117, 114, 110]) = false := by rw [hh]; rfl
 have e5 : (hd.toList == [116, 111]) = false := by rw [hh]; rfl
 have e6 : (hd.toList == [115, 112, 108, 105, 116]) = false := by rw [hh]; rfl
 have e7 : (hd.toList == [102, 111, 114, 99, 101]) = false := by rw [hh]; rfl
 have e8 : (hd.toList == [108, 97, 109]) = false := by rw [hh]; rfl
 have e9 : (hd.toList == [97, 112, 112]) = false := by rw [hh]; rfl
 have e10 : (hd.toList == [105, 102]) = true := by rw [hh]; rfl
 obtain ⟨vb, vo, rfl, hc0⟩ := vas hv
 have hc1 := van hv 1 rfl
 have hc2 := van hv 2 rfl
 have i0 : 0 < n := by omega
 have i1 : 1 < n := by omega
 have i2 : 2 < n := by omega
 have HJ := hid (show joinT hd.toList ty a.toList env (some x) (some y) (some z) = if y.write = z.write then some y else none by rw [hh]; cases x <;> first | rfl | simp [Ty.isBit] at hq)
 have HX := hid (fun W => isBit_any x W)
 have HS := hid (fun W => sameType_any y z (sma hy (by omega)) (sma hz (by omega)) W)
 have hl := World.block_lt_of_cell? w _ hc1
 obtain ⟨nx, vx, hx⟩ := x.val_iface
 rw [hx] at hc0
 have Hx := hid hx
 clear hx
 obtain ⟨ny, vy, hy⟩ := y.val_iface
 rw [hy] at hc1
 have Hy := hid hy
 clear hy
 obtain ⟨nz, vz, hz⟩ := z.val_iface
 rw [hz] at hc2
 have Hz := hid hz
 clear hz
 rw [Hx.out, hq] at HX
 rw [Hy.out, Hz.out] at HS
 have j0 : (0 : Int) < (n : Int) := by omega
 have j1 : (1 : Int) < (n : Int) := by omega
 have j2 : (2 : Int) < (n : Int) := by omega
 have KC := hid (fun (W : World) (h : Below w.heap.size w W) => (show W.cell? ⟨vb, vo, none⟩ = _ ∧ W.cell? ⟨vb, vo + 1, none⟩ = _ ∧ W.cell? ⟨vb, vo + 2, none⟩ = _ from ⟨(h.cell (p := ⟨vb, vo, none⟩) hl).trans hc0, (h.cell (p := ⟨vb, vo + 1, none⟩) hl).trans hc1, (h.cell (p := ⟨vb, vo + 2, none⟩) hl).trans hc2⟩))
 clear hb hh hn hv hl hq hy hz
 go_enter Tryz.func152, Tryz.ntmps152
 go_wp2_with fail
 go_region_held3 (fun w' => w'.cell? ⟨vb, vo, none⟩ = some (.iface nx vx) ∧ w'.cell? ⟨vb, vo + 1, none⟩ = some (.iface ny vy) ∧ w'.cell? ⟨vb, vo + 2, none⟩ = some (.iface nz vz) ∧ Below w.heap.size w w')
  (first | exact ⟨hc0, hc1, hc2, (Below.refl _ _).drew⟩ | exact ⟨k2.1, k2.2.1, k2.2.2, HB2.out⟩ | exact ⟨k1.1, k1.2.1, k1.2.2, HB1.out⟩)
  (first
    | (go_at_call 160; have _ := HB1; refine (HS.out _).mono ?_; rintro e w2 ⟨rfl, hb2⟩; go_split_ands; have hb12 := below_now hb2 (by assumption); have k2 := KC.out _ hb12; have HB2 := hid hb12; clear hb2 hb12)
    | (go_at_call 161; refine (HX.out _).mono ?_; rintro e w1 ⟨rfl, hb1⟩; go_split_ands; have hb01 := below_now hb1 (by assumption); have k1 := KC.out _ hb01; have HB1 := hid hb01; clear hb1 hb01))
 go_wp2_with fail
 go_ret2
 exact fromPost_if HJ.out Hy.out rfl (by assumption)
theorem from_try_no {b : Nat} {x2 x3 x5 : Value} {t : TypeId} (hd a : ByteArray) (ty : Option Ty) (env : List (ByteArray × Ty)) (x : Ty) (y : Ty) (pe p : Option Addr) (n c : Nat) (w : World) (hb : w.heap[b]? = some (.cells #[.string hd, .string a, x2, x3, tyV ty, x5] t (0, 0))) (hh : hd.toList = [116, 114, 121])
    (hn : 2 = n) (hv : Vals w p (([x, y] : List Ty).map Ty.val)) (un : TypeId) (vn : Value) (hx : x.val = .iface un vn) (hj : joinT hd.toList ty a.toList env (some x) (some y) none = none) (has1 : ∀ w, (Instr.typeAssert (.iface un vn) 54 127 true).run Tryz.prog w = .ok (.tuple #[.agg #[.nilIface], .bool false]) w) : Calls Tryz.prog 152 #[.pointer (some ⟨b, 0, none⟩), .slice p n c, .pointer pe] w (Fro (joinT hd.toList ty a.toList env (some x) (some y) none) w) := by
 have c0 := (ces hb).1
 have e0 : (hd.toList == [110, 97, 109, 101]) = false := by rw [hh]; rfl
 have e1 : (hd.toList == [98, 105, 116]) = false := by rw [hh]; rfl
 have e2 : (hd.toList == [112, 97, 105, 114]) = false := by rw [hh]; rfl
 have e3 : (hd.toList == [116, 104, 117, 110, 107]) = false := by rw [hh]; rfl
 have e4 : (hd.toList == [114, 101, 116, 117, 114, 110]) = false := by rw [hh]; rfl
 have e5 : (hd.toList == [116, 111]) = false := by rw [hh]; rfl
 have e6 : (hd.toList == [115, 112, 108, 105, 116]) = false := by rw [hh]; rfl
 have e7 : (hd.toList == [102, 111, 114, 99, 101]) = false := by rw [hh]; rfl
 have e8 : (hd.toList == [108, 97, 109]) = false := by rw [hh]; rfl
 have e9 : (hd.toList == [97, 112, 112]) = false := by rw [hh]; rfl
 have e10 : (hd.toList == [105, 102]) = false := by rw [hh]; rfl
 have e11 : (hd.toList == [98, 111, 116, 104]) = false := by rw [hh]; rfl
 have e12 : (hd.toList == [102, 115, 116]) = false := by rw [hh]; rfl
 have e13 : (hd.toList == [115, 110, 100]) = false := by rw [hh]; rfl
 have e14 : (hd.toList == [103, 101, 116]) = false := by rw [hh]; rfl
 have e15 : (hd.toList == [112, 117, 116]) = false := by rw [hh]; rfl
 have e16 : (hd.toList == [102, 97, 105, 108]) = false := by rw [hh]; rfl
 have e17 : (hd.toList == [116, 114, 121]) = true := by rw [hh]; rfl
 obtain ⟨vb, vo, rfl, hc0⟩ := vas hv
 have hc1 := van hv 1 rfl
 have i0 : 0 < n := by omega
 have i1 : 1 < n := by omega
 rw [hx] at hc0
 obtain ⟨ny, vy, hy⟩ := y.val_iface
 rw [hy] at hc1
 have Hy := hid hy
 clear hy
 have kd0 := fun o => cell_alloc_kept hc0 o
 have HJ := hid hj
 clear hb hh hn hv hx hj
 go_enter Tryz.func152, Tryz.ntmps152
 go_wp2_with fail
 go_quiet (fail)
 go_wp2_with fail
 go_ret2
 exact fro HJ.out rfl (((Below.refl _ _).alloc (Nat.le_refl _) _).trans ((bel _ _).mono (by simp)))
theorem from_try {b : Nat} {x2 x3 x5 : Value} {t : TypeId} (hd a : ByteArray) (ty : Option Ty) (env : List (ByteArray × Ty)) (x : Ty) (y : Ty) (pe p : Option Addr) (n c : Nat) (w : World) (hb : w.heap[b]? = some (.cells #[.string hd, .string a, x2, x3, tyV ty, x5] t (0, 0))) (hh : hd.toList = [116, 114, 121])
    (hn : 2 = n) (hv : Vals w p (([x, y] : List Ty).map Ty.val)) (hx : x.atoms ≤ 12) (hy : y.atoms ≤ 12) : Calls Tryz.prog 152 #[.pointer (some ⟨b, 0, none⟩), .slice p n c, .pointer pe] w (Fro (joinT hd.toList ty a.toList env (some x) (some y) none) w) := by
 cases x with
 | bit => exact from_try_no hd a ty env _ y pe p n c w hb hh hn hv _ _ rfl (by rw [hh]; rfl) (as_bit_ret (.agg #[]))
 | pair u v => exact from_try_no hd a ty env _ y pe p n c w hb hh hn hv _ _ rfl (by rw [hh]; rfl) (as_pair_ret (.agg #[u.val, v.val]))
 | thunk u => exact from_try_no hd a ty env _ y pe p n c w hb hh hn hv _ _ rfl (by rw [hh]; rfl) (as_thunk_ret (.agg #[u.val]))
 | ret u => exact from_try_yes hd a ty env u y pe p n c w hb hh hn hv hx hy
 | fn u v => exact from_try_no hd a ty env _ y pe p n c w hb hh hn hv _ _ rfl (by rw [hh]; rfl) (as_fn_ret (.agg #[u.val, v.val]))
 | choice u v => exact from_try_no hd a ty env _ y pe p n c w hb hh hn hv _ _ rfl (by rw [hh]; rfl) (as_choice_ret (.agg #[u.val, v.val]))
end Go.Proofs.YtfogjomebcponaaGreatDoor
