/- Merged: FromU. -/
import Derived.Test.YtfogjomebcponaaGreatDoorZG27
namespace Go.Proofs.YtfogjomebcponaaGreatDoor
open Go.RowKit
set_option maxRecDepth 100000
set_option maxHeartbeats 4000000
theorem sma {t : Ty} {n : Nat} (h : t.atoms ≤ n) (hn : n ≤ 100) : t.write.length ≤ 12000 := by have := tyw t; omega
theorem from_put {b : Nat} {x2 x3 x5 : Value} {t : TypeId} (hd a : ByteArray) (ty : Option Ty) (env : List (ByteArray × Ty)) (x : Ty) (y : Ty) (pe p : Option Addr) (n c : Nat) (w : World) (hb : w.heap[b]? = some (.cells #[.string hd, .string a, x2, x3, tyV ty, x5] t (0, 0))) (hh : hd.toList = [112, 117, 116])
    (hn : 2 = n) (hv : Vals w p (([x, y] : List Ty).map Ty.val)) : Calls Tryz.prog 152 #[.pointer (some ⟨b, 0, none⟩), .slice p n c, .pointer pe] w (Fro (joinT hd.toList ty a.toList env (some x) (some y) none) w) := by
 have c0 := (ces hb).1
 have e0 : (hd.toList == [110, 97, 109, 101]) = false := by rw [hh]; rfl
 have e1 : (hd.toList == [98, 105, 116]) = false := by rw [hh]; rfl
 have e2 : (hd.toList == [112, 97, 105, 114]) = false := by rw [hh]; rfl
 have e3 : (hd.toList == [116, 104, 117, 110, 107]) = false := by rw [hh]; rfl
 have e4 : (hd.toList == [114, 101, 116, 117, 114, 110]) = false := by rw [hh]; rfl
 have e5 : (hd.toList == [116, 111]) = false := by rw [hh]; rfl
 have e6 : (hd.toList == [115, 112, 108, 105, 116]) = false := by rw [hh]; rfl
 have e7 : (hd.toList == [102, 111, 114, 99, 101]) = false := by rw [hh]; rfl
 have e8 : (hd.toList == [108, 97, 109]) = false := by rw [hh]; rfl
 have e9 : (hd.toList == [97, 112, 112]) = false := by rw [hh]; rfl
 have e10 : (hd.toList == [105, 102]) = false := by rw [hh]; rfl
 have e11 : (hd.toList == [98, 111, 116, 104]) = false := by rw [hh]; rfl
 have e12 : (hd.toList == [102, 115, 116]) = false := by rw [hh]; rfl
 have e13 : (hd.toList == [115, 110, 100]) = false := by rw [hh]; rfl
 have e14 : (hd.toList == [103, 101, 116]) = false := by rw [hh]; rfl
 have e15 : (hd.toList == [112, 117, 116]) = true := by rw [hh]; rfl
 obtain ⟨vb, vo, rfl, hc0⟩ := vas hv
 have hc1 := van hv 1 rfl
 have i0 : 0 < n := by omega
 have i1 : 1 < n := by omega
 have HJ := hid (show joinT hd.toList ty a.toList env (some x) (some y) none = if x.isBit = true then some y else none by rw [hh]; cases x <;> rfl)
 have HX := hid (fun W => isBit_any x W)
 have hl := World.block_lt_of_cell? w _ hc1
 obtain ⟨nx, vx, hx⟩ := x.val_iface
 rw [hx] at hc0
 have Hx := hid hx
 clear hx
 obtain ⟨ny, vy, hy⟩ := y.val_iface
 rw [hy] at hc1
 have Hy := hid hy
 clear hy
 rw [Hx.out] at HX
 have KC := hid (fun (W : World) (h : Below w.heap.size w W) => (h.cell (p := ⟨vb, vo + 1, none⟩) hl).trans hc1)
 obtain ⟨q, hq⟩ : ∃ q, x.isBit = q := ⟨_, rfl⟩
 rw [hq] at HJ HX
 clear hb hh hn hv hl hq
 go_enter Tryz.func152, Tryz.ntmps152
 go_wp2_with fail
 go_region_with (go_at_call 161; refine (HX.out _).mono ?_; rintro e w1 ⟨rfl, hb1⟩; have hb01 := (Below.refl w.heap.size w).drew.trans hb1; have k1 := KC.out _ hb01; have HB := hid hb01; clear hb1 hb01)
 all_goals
  go_wp2_with fail
  go_ret2
  refine fromPost_if (c := q = true) HJ.out Hy.out ?_ HB.out
  rw [Bool.decide_eq_true]; rfl
theorem from_app {b : Nat} {x2 x3 x5 : Value} {t : TypeId} (hd a : ByteArray) (ty : Option Ty) (env : List (ByteArray × Ty)) (x : Ty) (y : Ty) (pe p : Option Addr) (n c : Nat) (w : World) (hb : w.heap[b]? = some (.cells #[.string hd, .string a, x2, x3, tyV ty, x5] t (0, 0))) (hh : hd.toList = [97, 112, 112])
    (hn : 2 = n) (hv : Vals w p (([x, y] : List Ty).map Ty.val)) (hx : x.atoms ≤ 12) (hy : y.atoms ≤ 12) : Calls Tryz.prog 152 #[.pointer (some ⟨b, 0, none⟩), .slice p n c, .pointer pe] w (Fro (joinT hd.toList ty a.toList env (some x) (some y) none) w) := by
 have c0 := (ces hb).1
 have e0 : (hd.toList == [110, 97, 109, 101]) = false := by rw [hh]; rfl
 have e1 : (hd.toList == [98, 105, 116]) = false := by rw [hh]; rfl
 have e2 : (hd.toList == [112, 97, 105, 114]) = false := by rw [hh]; rfl
 have e3 : (hd.toList == [116, 104, 117, 110, 107]) = false := by rw [hh]; rfl
 have e4 : (hd.toList == [114, 101, 116, 117, 114, 110]) = false := by rw [hh]; rfl
 have e5 : (hd.toList == [116, 111]) = false := by rw [hh]; rfl
 have e6 : (hd.toList == [115, 112, 108, 105, 116]) = false := by rw [hh]; rfl
 have e7 : (hd.toList == [102, 111, 114, 99, 101]) = false := by rw [hh]; rfl
 have e8 : (hd.toList == [108, 97, 109]) = false := by rw [hh]; rfl
 have e9 : (hd.toList == [97, 112, 112]) = true := by rw [hh]; rfl
 obtain ⟨vb, vo, rfl, hc0⟩ := vas hv
 have hc1 := van hv 1 rfl
 have i0 : 0 < n := by omega
 have i1 : 1 < n := by omega
 have HJ := hid (show joinT hd.toList ty a.toList env (some x) (some y) none = joinT [97, 112, 112] ty a.toList env (some x) (some y) none by rw [hh])
 have hl1 := World.block_lt_of_cell? w _ hc1
 cases x with
 | bit =>
  simp only [Ty.val] at hc0
  obtain ⟨ny, vy, hy⟩ := y.val_iface
  rw [hy] at hc1
  have Hy := hid hy
  clear hy
  have has1 := as_bit_fn (.agg #[])
  clear hb hh hn hv hl1 hx hy
  go_enter Tryz.func152, Tryz.ntmps152
  go_wp2_with fail
  go_quiet (fail)
  go_wp2_with fail
  go_ret2
  exact fro (by rw [HJ.out]; rfl) rfl (((Below.refl _ _).alloc (Nat.le_refl _) _).trans ((bel _ _).mono (by simp)))
 | pair u v =>
  simp only [Ty.val] at hc0
  obtain ⟨ny, vy, hy⟩ := y.val_iface
  rw [hy] at hc1
  have Hy := hid hy
  clear hy
  obtain ⟨nu, vu, hu⟩ := u.val_iface
  rw [hu] at hc0
  have Hu := hid hu
  clear hu
  obtain ⟨nv, vv, hv⟩ := v.val_iface
  rw [hv] at hc0
  have Hv := hid hv
  clear hv
  have has1 := as_pair_fn (.agg #[.iface nu vu, .iface nv vv])
  clear hb hh hn hv hl1 hx hy
  go_enter Tryz.func152, Tryz.ntmps152
  go_wp2_with fail
  go_quiet (fail)
  go_wp2_with fail
  go_ret2
  exact fro (by rw [HJ.out]; rfl) rfl (((Below.refl _ _).alloc (Nat.le_refl _) _).trans ((bel _ _).mono (by simp)))
 | thunk u =>
  simp only [Ty.val] at hc0
  obtain ⟨ny, vy, hy⟩ := y.val_iface
  rw [hy] at hc1
  have Hy := hid hy
  clear hy
  obtain ⟨nu, vu, hu⟩ := u.val_iface
  rw [hu] at hc0
  have Hu := hid hu
  clear hu
  have has1 := as_thunk_fn (.agg #[.iface nu vu])
  clear hb hh hn hv hl1 hx hy
  go_enter Tryz.func152, Tryz.ntmps152
  go_wp2_with fail
  go_quiet (fail)
  go_wp2_with fail
  go_ret2
  exact fro (by rw [HJ.out]; rfl) rfl (((Below.refl _ _).alloc (Nat.le_refl _) _).trans ((bel _ _).mono (by simp)))
 | ret u =>
  simp only [Ty.val] at hc0
  obtain ⟨ny, vy, hy⟩ := y.val_iface
  rw [hy] at hc1
  have Hy := hid hy
  clear hy
  obtain ⟨nu, vu, hu⟩ := u.val_iface
  rw [hu] at hc0
  have Hu := hid hu
  clear hu
  have has1 := as_ret_fn (.agg #[.iface nu vu])
  clear hb hh hn hv hl1 hx hy
  go_enter Tryz.func152, Tryz.ntmps152
  go_wp2_with fail
  go_quiet (fail)
  go_wp2_with fail
  go_ret2
  exact fro (by rw [HJ.out]; rfl) rfl (((Below.refl _ _).alloc (Nat.le_refl _) _).trans ((bel _ _).mono (by simp)))
 | fn u v =>
  simp only [Ty.val] at hc0
  have HS := hid (fun W => sameType_any u y (sma (n := 12) (by rw [Ty.atoms] at hx; omega) (by omega)) (sma hy (by omega)) W)
  obtain ⟨ny, vy, hy⟩ := y.val_iface
  rw [hy] at hc1
  have Hy := hid hy
  clear hy
  obtain ⟨nu, vu, hu⟩ := u.val_iface
  rw [hu] at hc0
  have Hu := hid hu
  clear hu
  obtain ⟨nv, vv, hv⟩ := v.val_iface
  rw [hv] at hc0
  have Hv := hid hv
  clear hv
  have has1 := as_fn_fn (.agg #[.iface nu vu, .iface nv vv])
  rw [Hu.out, Hy.out] at HS
  have HJ2 := hid (show joinT hd.toList ty a.toList env (some (.fn u v)) (some y) none = if u.write = y.write then some v else none by rw [HJ.out]; rfl)
  obtain ⟨W0, hW0⟩ : ∃ W0, W0 = w.alloc (.cells #[.iface nu vu, .iface nv vv] 129) := ⟨_, rfl⟩
  have hh0 := hea w (.cells #[.iface nu vu, .iface nv vv] 129) w.heap.size rfl
  rw [← hW0] at hh0
  have hs0 : W0.heap.size = w.heap.size + 1 := by rw [hW0]; simp
  have hb0 : Below w.heap.size w W0 := by rw [hW0]; exact (Below.refl _ _).alloc (Nat.le_refl _) _
  have kc := cel hh0
  have kd := (hb0.cell (p := ⟨vb, vo + 1, none⟩) hl1).trans hc1
  have KC := hid (fun (W : World) (h : Below W0.heap.size W0 W) => cel (blo hh0 h (by omega)))
  have HB0 := hid hb0
  have HS0 := hid hs0
  have HW0 := hid hW0
  clear hh0 hb0 hs0 hW0 hb hh hn hv hl1 hx hy
  go_enter Tryz.func152, Tryz.ntmps152
  go_wp2_with fail
  rw [← HW0.out]
  go_region_with (go_at_call 160; refine (HS.out _).mono ?_; rintro e w1 ⟨rfl, hb1⟩; have hb01 := (Below.refl W0.heap.size W0).drew.trans hb1; have k1 := KC.out _ hb01; have HB := hid hb01; clear hb1 hb01)
  all_goals
   go_wp2_with fail
   go_ret2
   exact fromPost_if HJ2.out Hv.out rfl (HB0.out.trans (HB.out.mono (by have := HS0.out; omega)))
 | choice u v =>
  simp only [Ty.val] at hc0
  obtain ⟨ny, vy, hy⟩ := y.val_iface
  rw [hy] at hc1
  have Hy := hid hy
  clear hy
  obtain ⟨nu, vu, hu⟩ := u.val_iface
  rw [hu] at hc0
  have Hu := hid hu
  clear hu
  obtain ⟨nv, vv, hv⟩ := v.val_iface
  rw [hv] at hc0
  have Hv := hid hv
  clear hv
  have has1 := as_choice_fn (.agg #[.iface nu vu, .iface nv vv])
  clear hb hh hn hv hl1 hx hy
  go_enter Tryz.func152, Tryz.ntmps152
  go_wp2_with fail
  go_quiet (fail)
  go_wp2_with fail
  go_ret2
  exact fro (by rw [HJ.out]; rfl) rfl (((Below.refl _ _).alloc (Nat.le_refl _) _).trans ((bel _ _).mono (by simp)))
end Go.Proofs.YtfogjomebcponaaGreatDoor
