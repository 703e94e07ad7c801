/- Merged: FromT. -/
import Derived.Deep.QuietTactic
import Derived.BigQuiet
import Derived.Test.YtmffcicpiialcaaGreatDoorTd16
namespace Go.Proofs.YtmffcicpiialcaaGreatDoor
open Go.RowKit

/-- What typeFrom leaves. -/
def FromPost (o : Option Ty) (w : World) (e : Ending) (w' : World) : Prop :=
  Below w.heap.size w w' ∧ match o with
    | some t => e = .returned (.tuple #[t.val, .bool true])
    | none => ∃ v, e = .returned (.tuple #[v, .bool false])
theorem fromPost_yes {o : Option Ty} {t : Ty} {w w' : World} {e : Ending} (ho : o = some t) (he : e = .returned (.tuple #[t.val, .bool true])) (hb : Below w.heap.size w w') : FromPost o w e w' := by
  subst ho; exact ⟨hb, he⟩
theorem fromPost_v {o : Option Ty} {t : Ty} {w w' : World} {e : Ending} {v : Value} (ho : o = some t) (hv : t.val = v) (he : e = .returned (.tuple #[v, .bool true])) (hb : Below w.heap.size w w') : FromPost o w e w' := by
  subst ho; exact ⟨hb, by rw [he, ← hv]⟩
theorem below_drawn (w : World) (n : Nat) : Below w.heap.size w (w.drewN n) := ⟨rfl, rfl, rfl, Nat.le_refl _, fun _ _ => rfl⟩
theorem fromPost_no {o : Option Ty} {w w' : World} {e : Ending} {v : Value} (ho : o = none) (he : e = .returned (.tuple #[v, .bool false])) (hb : Below w.heap.size w w') : FromPost o w e w' := by
  subst ho; exact ⟨hb, v, he⟩
theorem fromPost_if {o : Option Ty} {t : Ty} {c : Prop} [Decidable c] {w w' : World} {e : Ending} {v : Value} (ho : o = if c then some t else none) (hv : t.val = v) (he : e = .returned (.tuple #[v, .bool (decide c)])) (hb : Below w.heap.size w w') : FromPost o w e w' := by
  by_cases hc : c
  · rw [if_pos hc] at ho; rw [decide_eq_true hc] at he; exact fromPost_v ho hv he hb
  · rw [if_neg hc] at ho; subst ho; rw [decide_eq_false hc] at he; exact ⟨hb, v, he⟩
theorem vals_next {w : World} {b o : Nat} {l : List Value} (h : Vals w (some ⟨b, o, none⟩) l) (i : Nat) {v : Value} (hi : l[i]? = some v) : w.cell? ⟨b, o + i, none⟩ = some v := by
  obtain ⟨b', o', hp, hc⟩ := h i v hi
  simp only [Option.some.injEq, Addr.mk.injEq, and_true] at hp
  obtain ⟨rfl, rfl⟩ := hp
  exact hc

set_option maxRecDepth 100000 in
set_option maxHeartbeats 4000000 in
theorem from_name {b : Nat} {x2 x3 x5 : Value} {t : TypeId} (hd a : ByteArray) (ty : Option Ty) (env : List (ByteArray × Ty)) (pe p : Option Addr) (n c : Nat) (w : World) (hb : w.heap[b]? = some (.cells #[.string hd, .string a, x2, x3, tyV ty, x5] t (0, 0))) (hh : hd.toList = [110, 97, 109, 101])
     {w0 : World} {S : Nat → Prop} (he : EIn w0 S env pe) (hk : Kept w0 w) : Calls Tryz.prog 80 #[.pointer (some ⟨b, 0, none⟩), .slice p n c, .pointer pe] w (FromPost (joinT hd.toList ty a.toList env none none none) w) := by
  have c0 := (cells_of_six hb).1
  have c1 := (cells_of_six hb).2.1
  have e0 : (hd.toList == [110, 97, 109, 101]) = true := by rw [hh]; rfl
  have HL := hid (fun W hk => look_any a he W hk)
  have HJ := hid (show joinT hd.toList ty a.toList env none none none = lookR a.toList env by rw [hh]; rfl)
  have HK := hid hk
  clear hb hh he hk
  cases hl : lookR a.toList env with
  | none =>
    rw [hl] at HL
    have HO := hid (HJ.out.trans hl)
    clear hl HJ
    go_enter Tryz.func80, Tryz.ntmps80
    go_wp2_with (go_at_call 92; refine (HL.out _ HK.out).mono ?_; rintro e w1 ⟨hp, rfl⟩; obtain ⟨rfl, _⟩ := hp.none; clear hp)
    go_ret2
    exact fromPost_no HO.out rfl (Below.refl _ _)
  | some y =>
    rw [hl] at HL
    have HO := hid (HJ.out.trans hl)
    obtain ⟨ny, vy, hy⟩ := y.val_iface
    have HY := hid hy
    clear hl HJ hy
    go_enter Tryz.func80, Tryz.ntmps80
    go_wp2_with (go_at_call 92; refine (HL.out _ HK.out).mono ?_; rintro e w1 ⟨hp, rfl⟩; obtain ⟨he1, _⟩ := hp.some; rw [HY.out] at he1; subst he1; clear hp)
    go_ret2
    exact fromPost_v HO.out HY.out rfl (Below.refl _ _)

set_option maxRecDepth 100000 in
set_option maxHeartbeats 4000000 in
theorem from_bit {b : Nat} {x2 x3 x5 : Value} {t : TypeId} (hd a : ByteArray) (ty : Option Ty) (env : List (ByteArray × Ty)) (pe p : Option Addr) (n c : Nat) (w : World) (hb : w.heap[b]? = some (.cells #[.string hd, .string a, x2, x3, tyV ty, x5] t (0, 0))) (hh : hd.toList = [98, 105, 116])
     : Calls Tryz.prog 80 #[.pointer (some ⟨b, 0, none⟩), .slice p n c, .pointer pe] w (FromPost (joinT hd.toList ty a.toList env none none none) w) := by
  have c0 := (cells_of_six hb).1
  have e0 : (hd.toList == [110, 97, 109, 101]) = false := by rw [hh]; rfl
  have e1 : (hd.toList == [98, 105, 116]) = true := by rw [hh]; rfl
  have HJ := hid (show joinT hd.toList ty a.toList env none none none = some .bit by rw [hh]; rfl)
  clear hb hh
  go_enter Tryz.func80, Tryz.ntmps80
  go_wp2_with fail
  go_ret2
  exact fromPost_v HJ.out rfl rfl (Below.refl _ _)

set_option maxRecDepth 100000 in
set_option maxHeartbeats 4000000 in
theorem from_pair {b : Nat} {x2 x3 x5 : Value} {t : TypeId} (hd a : ByteArray) (ty : Option Ty) (env : List (ByteArray × Ty)) (x : Ty) (y : Ty) (pe p : Option Addr) (n c : Nat) (w : World) (hb : w.heap[b]? = some (.cells #[.string hd, .string a, x2, x3, tyV ty, x5] t (0, 0))) (hh : hd.toList = [112, 97, 105, 114])
    (hn : 2 = n) (hv : Vals w p (([x, y] : List Ty).map Ty.val)) : Calls Tryz.prog 80 #[.pointer (some ⟨b, 0, none⟩), .slice p n c, .pointer pe] w (FromPost (joinT hd.toList ty a.toList env (some x) (some y) none) w) := by
  have c0 := (cells_of_six hb).1
  have e0 : (hd.toList == [110, 97, 109, 101]) = false := by rw [hh]; rfl
  have e1 : (hd.toList == [98, 105, 116]) = false := by rw [hh]; rfl
  have e2 : (hd.toList == [112, 97, 105, 114]) = true := by rw [hh]; rfl
  obtain ⟨vb, vo, rfl, hc0⟩ := vals_first hv
  have hc1 := vals_next hv 1 rfl
  have i0 : 0 < n := by omega
  have i1 : 1 < n := by omega
  have HJ := hid (show joinT hd.toList ty a.toList env (some x) (some y) none = some (.pair x y) by rw [hh]; rfl)
  obtain ⟨nx, vx, hx⟩ := x.val_iface
  rw [hx] at hc0
  have Hx := hid hx
  clear hx
  obtain ⟨ny, vy, hy⟩ := y.val_iface
  rw [hy] at hc1
  have Hy := hid hy
  clear hy
  clear hb hh hn hv
  go_enter Tryz.func80, Tryz.ntmps80
  go_wp2_with fail
  go_quiet (fail)
  go_wp2_with fail
  go_ret2
  exact fromPost_v HJ.out (by simp only [Ty.val, Hx.out, Hy.out]; rfl) rfl (below_drawn _ _)

set_option maxRecDepth 100000 in
set_option maxHeartbeats 4000000 in
theorem from_thunk {b : Nat} {x2 x3 x5 : Value} {t : TypeId} (hd a : ByteArray) (ty : Option Ty) (env : List (ByteArray × Ty)) (x : Ty) (pe p : Option Addr) (n c : Nat) (w : World) (hb : w.heap[b]? = some (.cells #[.string hd, .string a, x2, x3, tyV ty, x5] t (0, 0))) (hh : hd.toList = [116, 104, 117, 110, 107])
    (hn : 1 = n) (hv : Vals w p (([x] : List Ty).map Ty.val)) : Calls Tryz.prog 80 #[.pointer (some ⟨b, 0, none⟩), .slice p n c, .pointer pe] w (FromPost (joinT hd.toList ty a.toList env (some x) none none) w) := by
  have c0 := (cells_of_six hb).1
  have e0 : (hd.toList == [110, 97, 109, 101]) = false := by rw [hh]; rfl
  have e1 : (hd.toList == [98, 105, 116]) = false := by rw [hh]; rfl
  have e2 : (hd.toList == [112, 97, 105, 114]) = false := by rw [hh]; rfl
  have e3 : (hd.toList == [116, 104, 117, 110, 107]) = true := by rw [hh]; rfl
  obtain ⟨vb, vo, rfl, hc0⟩ := vals_first hv
  have i0 : 0 < n := by omega
  have HJ := hid (show joinT hd.toList ty a.toList env (some x) none none = some (.thunk x) by rw [hh]; rfl)
  obtain ⟨nx, vx, hx⟩ := x.val_iface
  rw [hx] at hc0
  have Hx := hid hx
  clear hx
  clear hb hh hn hv
  go_enter Tryz.func80, Tryz.ntmps80
  go_wp2_with fail
  go_ret2
  exact fromPost_v HJ.out (by simp only [Ty.val, Hx.out]; rfl) rfl (Below.refl _ _)

set_option maxRecDepth 100000 in
set_option maxHeartbeats 4000000 in
theorem from_return {b : Nat} {x2 x3 x5 : Value} {t : TypeId} (hd a : ByteArray) (ty : Option Ty) (env : List (ByteArray × Ty)) (x : Ty) (pe p : Option Addr) (n c : Nat) (w : World) (hb : w.heap[b]? = some (.cells #[.string hd, .string a, x2, x3, tyV ty, x5] t (0, 0))) (hh : hd.toList = [114, 101, 116, 117, 114, 110])
    (hn : 1 = n) (hv : Vals w p (([x] : List Ty).map Ty.val)) : Calls Tryz.prog 80 #[.pointer (some ⟨b, 0, none⟩), .slice p n c, .pointer pe] w (FromPost (joinT hd.toList ty a.toList env (some x) none none) w) := by
  have c0 := (cells_of_six hb).1
  have e0 : (hd.toList == [110, 97, 109, 101]) = false := by rw [hh]; rfl
  have e1 : (hd.toList == [98, 105, 116]) = false := by rw [hh]; rfl
  have e2 : (hd.toList == [112, 97, 105, 114]) = false := by rw [hh]; rfl
  have e3 : (hd.toList == [116, 104, 117, 110, 107]) = false := by rw [hh]; rfl
  have e4 : (hd.toList == [114, 101, 116, 117, 114, 110]) = true := by rw [hh]; rfl
  obtain ⟨vb, vo, rfl, hc0⟩ := vals_first hv
  have i0 : 0 < n := by omega
  have HJ := hid (show joinT hd.toList ty a.toList env (some x) none none = some (.ret x) by rw [hh]; rfl)
  obtain ⟨nx, vx, hx⟩ := x.val_iface
  rw [hx] at hc0
  have Hx := hid hx
  clear hx
  clear hb hh hn hv
  go_enter Tryz.func80, Tryz.ntmps80
  go_wp2_with fail
  go_ret2
  exact fromPost_v HJ.out (by simp only [Ty.val, Hx.out]; rfl) rfl (Below.refl _ _)

set_option maxRecDepth 100000 in
set_option maxHeartbeats 4000000 in
theorem from_to {b : Nat} {x2 x3 x5 : Value} {t : TypeId} (hd a : ByteArray) (ty : Option Ty) (env : List (ByteArray × Ty)) (x : Ty) (y : Ty) (pe p : Option Addr) (n c : Nat) (w : World) (hb : w.heap[b]? = some (.cells #[.string hd, .string a, x2, x3, tyV ty, x5] t (0, 0))) (hh : hd.toList = [116, 111])
    (hn : 2 = n) (hv : Vals w p (([x, y] : List Ty).map Ty.val)) : Calls Tryz.prog 80 #[.pointer (some ⟨b, 0, none⟩), .slice p n c, .pointer pe] w (FromPost (joinT hd.toList ty a.toList env (some x) (some y) none) w) := by
  have c0 := (cells_of_six hb).1
  have e0 : (hd.toList == [110, 97, 109, 101]) = false := by rw [hh]; rfl
  have e1 : (hd.toList == [98, 105, 116]) = false := by rw [hh]; rfl
  have e2 : (hd.toList == [112, 97, 105, 114]) = false := by rw [hh]; rfl
  have e3 : (hd.toList == [116, 104, 117, 110, 107]) = false := by rw [hh]; rfl
  have e4 : (hd.toList == [114, 101, 116, 117, 114, 110]) = false := by rw [hh]; rfl
  have e5 : (hd.toList == [116, 111]) = true := by rw [hh]; rfl
  obtain ⟨vb, vo, rfl, hc0⟩ := vals_first hv
  have hc1 := vals_next hv 1 rfl
  have i0 : 0 < n := by omega
  have i1 : 1 < n := by omega
  have HJ := hid (show joinT hd.toList ty a.toList env (some x) (some y) none = some (y) by rw [hh]; rfl)
  obtain ⟨nx, vx, hx⟩ := x.val_iface
  rw [hx] at hc0
  have Hx := hid hx
  clear hx
  obtain ⟨ny, vy, hy⟩ := y.val_iface
  rw [hy] at hc1
  have Hy := hid hy
  clear hy
  clear hb hh hn hv
  go_enter Tryz.func80, Tryz.ntmps80
  go_wp2_with fail
  go_ret2
  exact fromPost_v HJ.out (by simp only [Hy.out]; rfl) rfl (Below.refl _ _)

set_option maxRecDepth 100000 in
set_option maxHeartbeats 4000000 in
theorem from_split {b : Nat} {x2 x3 x5 : Value} {t : TypeId} (hd a : ByteArray) (ty : Option Ty) (env : List (ByteArray × Ty)) (x : Ty) (y : Ty) (pe p : Option Addr) (n c : Nat) (w : World) (hb : w.heap[b]? = some (.cells #[.string hd, .string a, x2, x3, tyV ty, x5] t (0, 0))) (hh : hd.toList = [115, 112, 108, 105, 116])
    (hn : 2 = n) (hv : Vals w p (([x, y] : List Ty).map Ty.val)) : Calls Tryz.prog 80 #[.pointer (some ⟨b, 0, none⟩), .slice p n c, .pointer pe] w (FromPost (joinT hd.toList ty a.toList env (some x) (some y) none) w) := by
  have c0 := (cells_of_six hb).1
  have e0 : (hd.toList == [110, 97, 109, 101]) = false := by rw [hh]; rfl
  have e1 : (hd.toList == [98, 105, 116]) = false := by rw [hh]; rfl
  have e2 : (hd.toList == [112, 97, 105, 114]) = false := by rw [hh]; rfl
  have e3 : (hd.toList == [116, 104, 117, 110, 107]) = false := by rw [hh]; rfl
  have e4 : (hd.toList == [114, 101, 116, 117, 114, 110]) = false := by rw [hh]; rfl
  have e5 : (hd.toList == [116, 111]) = false := by rw [hh]; rfl
  have e6 : (hd.toList == [115, 112, 108, 105, 116]) = true := by rw [hh]; rfl
  obtain ⟨vb, vo, rfl, hc0⟩ := vals_first hv
  have hc1 := vals_next hv 1 rfl
  have i0 : 0 < n := by omega
  have i1 : 1 < n := by omega
  have HJ := hid (show joinT hd.toList ty a.toList env (some x) (some y) none = some (y) by rw [hh]; rfl)
  obtain ⟨nx, vx, hx⟩ := x.val_iface
  rw [hx] at hc0
  have Hx := hid hx
  clear hx
  obtain ⟨ny, vy, hy⟩ := y.val_iface
  rw [hy] at hc1
  have Hy := hid hy
  clear hy
  clear hb hh hn hv
  go_enter Tryz.func80, Tryz.ntmps80
  go_wp2_with fail
  go_ret2
  exact fromPost_v HJ.out (by simp only [Hy.out]; rfl) rfl (Below.refl _ _)

set_option maxRecDepth 100000 in
set_option maxHeartbeats 4000000 in
theorem from_force {b : Nat} {x2 x3 x5 : Value} {t : TypeId} (hd a : ByteArray) (ty : Option Ty) (env : List (ByteArray × Ty)) (x : Ty) (pe p : Option Addr) (n c : Nat) (w : World) (hb : w.heap[b]? = some (.cells #[.string hd, .string a, x2, x3, tyV ty, x5] t (0, 0))) (hh : hd.toList = [102, 111, 114, 99, 101])
    (hn : 1 = n) (hv : Vals w p (([x] : List Ty).map Ty.val)) : Calls Tryz.prog 80 #[.pointer (some ⟨b, 0, none⟩), .slice p n c, .pointer pe] w (FromPost (joinT hd.toList ty a.toList env (some x) none none) w) := by
  have c0 := (cells_of_six hb).1
  have e0 : (hd.toList == [110, 97, 109, 101]) = false := by rw [hh]; rfl
  have e1 : (hd.toList == [98, 105, 116]) = false := by rw [hh]; rfl
  have e2 : (hd.toList == [112, 97, 105, 114]) = false := by rw [hh]; rfl
  have e3 : (hd.toList == [116, 104, 117, 110, 107]) = false := by rw [hh]; rfl
  have e4 : (hd.toList == [114, 101, 116, 117, 114, 110]) = false := by rw [hh]; rfl
  have e5 : (hd.toList == [116, 111]) = false := by rw [hh]; rfl
  have e6 : (hd.toList == [115, 112, 108, 105, 116]) = false := by rw [hh]; rfl
  have e7 : (hd.toList == [102, 111, 114, 99, 101]) = true := by rw [hh]; rfl
  obtain ⟨vb, vo, rfl, hc0⟩ := vals_first hv
  have i0 : 0 < n := by omega
  have HJ := hid (show joinT hd.toList ty a.toList env (some x) none none = joinT [102, 111, 114, 99, 101] ty a.toList env (some x) none none by rw [hh])
  clear hb hh hn hv
  cases x with
  | bit =>
    simp only [Ty.val] at hc0
    have has1 := as_bit_thunk (.agg #[])
    go_enter Tryz.func80, Tryz.ntmps80
    go_wp2_with fail
    go_ret2
    exact fromPost_no (by rw [HJ.out]; rfl) rfl ((Below.refl _ _).alloc (Nat.le_refl _) _)
  | pair u v =>
    simp only [Ty.val] at hc0
    obtain ⟨nu, vu, hu⟩ := u.val_iface
    rw [hu] at hc0
    have Hu := hid hu
    clear hu
    obtain ⟨nv, vv, hv⟩ := v.val_iface
    rw [hv] at hc0
    have Hv := hid hv
    clear hv
    have has1 := as_pair_thunk (.agg #[.iface nu vu, .iface nv vv])
    go_enter Tryz.func80, Tryz.ntmps80
    go_wp2_with fail
    go_ret2
    exact fromPost_no (by rw [HJ.out]; rfl) rfl ((Below.refl _ _).alloc (Nat.le_refl _) _)
  | thunk u =>
    simp only [Ty.val] at hc0
    obtain ⟨nu, vu, hu⟩ := u.val_iface
    rw [hu] at hc0
    have Hu := hid hu
    clear hu
    have has1 := as_thunk_thunk (.agg #[.iface nu vu])
    go_enter Tryz.func80, Tryz.ntmps80
    go_wp2_with fail
    go_ret2
    exact fromPost_v (t := u) (by rw [HJ.out]; rfl) Hu.out rfl ((Below.refl _ _).alloc (Nat.le_refl _) _)
  | ret u =>
    simp only [Ty.val] at hc0
    obtain ⟨nu, vu, hu⟩ := u.val_iface
    rw [hu] at hc0
    have Hu := hid hu
    clear hu
    have has1 := as_ret_thunk (.agg #[.iface nu vu])
    go_enter Tryz.func80, Tryz.ntmps80
    go_wp2_with fail
    go_ret2
    exact fromPost_no (by rw [HJ.out]; rfl) rfl ((Below.refl _ _).alloc (Nat.le_refl _) _)
  | fn u v =>
    simp only [Ty.val] at hc0
    obtain ⟨nu, vu, hu⟩ := u.val_iface
    rw [hu] at hc0
    have Hu := hid hu
    clear hu
    obtain ⟨nv, vv, hv⟩ := v.val_iface
    rw [hv] at hc0
    have Hv := hid hv
    clear hv
    have has1 := as_fn_thunk (.agg #[.iface nu vu, .iface nv vv])
    go_enter Tryz.func80, Tryz.ntmps80
    go_wp2_with fail
    go_ret2
    exact fromPost_no (by rw [HJ.out]; rfl) rfl ((Below.refl _ _).alloc (Nat.le_refl _) _)
  | choice u v =>
    simp only [Ty.val] at hc0
    obtain ⟨nu, vu, hu⟩ := u.val_iface
    rw [hu] at hc0
    have Hu := hid hu
    clear hu
    obtain ⟨nv, vv, hv⟩ := v.val_iface
    rw [hv] at hc0
    have Hv := hid hv
    clear hv
    have has1 := as_choice_thunk (.agg #[.iface nu vu, .iface nv vv])
    go_enter Tryz.func80, Tryz.ntmps80
    go_wp2_with fail
    go_ret2
    exact fromPost_no (by rw [HJ.out]; rfl) rfl ((Below.refl _ _).alloc (Nat.le_refl _) _)

set_option maxRecDepth 100000 in
set_option maxHeartbeats 4000000 in
theorem from_lam {b : Nat} {x2 x3 x5 : Value} {t : TypeId} (hd a : ByteArray) (env : List (ByteArray × Ty)) (ty : Ty) (x : Ty) (pe p : Option Addr) (n c : Nat) (w : World) (hb : w.heap[b]? = some (.cells #[.string hd, .string a, x2, x3, tyV (some ty), x5] t (0, 0))) (hh : hd.toList = [108, 97, 109])
    (hn : 1 = n) (hv : Vals w p (([x] : List Ty).map Ty.val)) : Calls Tryz.prog 80 #[.pointer (some ⟨b, 0, none⟩), .slice p n c, .pointer pe] w (FromPost (joinT hd.toList (some ty) a.toList env (some x) none none) w) := by
  have c0 := (cells_of_six hb).1
  have c4 := (cells_of_six hb).2.2.2.2.1
  simp only [tyV] at c4
  have e0 : (hd.toList == [110, 97, 109, 101]) = false := by rw [hh]; rfl
  have e1 : (hd.toList == [98, 105, 116]) = false := by rw [hh]; rfl
  have e2 : (hd.toList == [112, 97, 105, 114]) = false := by rw [hh]; rfl
  have e3 : (hd.toList == [116, 104, 117, 110, 107]) = false := by rw [hh]; rfl
  have e4 : (hd.toList == [114, 101, 116, 117, 114, 110]) = false := by rw [hh]; rfl
  have e5 : (hd.toList == [116, 111]) = false := by rw [hh]; rfl
  have e6 : (hd.toList == [115, 112, 108, 105, 116]) = false := by rw [hh]; rfl
  have e7 : (hd.toList == [102, 111, 114, 99, 101]) = false := by rw [hh]; rfl
  have e8 : (hd.toList == [108, 97, 109]) = true := by rw [hh]; rfl
  obtain ⟨vb, vo, rfl, hc0⟩ := vals_first hv
  have i0 : 0 < n := by omega
  have HJ := hid (show joinT hd.toList (some ty) a.toList env (some x) none none = some (.fn ty x) by rw [hh]; rfl)
  obtain ⟨nx, vx, hx⟩ := x.val_iface
  rw [hx] at hc0
  have Hx := hid hx
  clear hx
  obtain ⟨nty, vty, hty⟩ := ty.val_iface
  rw [hty] at c4
  have Hty := hid hty
  clear hty
  clear hb hh hn hv
  go_enter Tryz.func80, Tryz.ntmps80
  go_wp2_with fail
  go_quiet (fail)
  go_wp2_with fail
  go_ret2
  exact fromPost_v HJ.out (by simp only [Ty.val, Hx.out, Hty.out]; rfl) rfl (below_drawn _ _)

set_option maxRecDepth 100000 in
set_option maxHeartbeats 4000000 in
theorem from_both {b : Nat} {x2 x3 x5 : Value} {t : TypeId} (hd a : ByteArray) (ty : Option Ty) (env : List (ByteArray × Ty)) (x : Ty) (y : Ty) (pe p : Option Addr) (n c : Nat) (w : World) (hb : w.heap[b]? = some (.cells #[.string hd, .string a, x2, x3, tyV ty, x5] t (0, 0))) (hh : hd.toList = [98, 111, 116, 104])
    (hn : 2 = n) (hv : Vals w p (([x, y] : List Ty).map Ty.val)) : Calls Tryz.prog 80 #[.pointer (some ⟨b, 0, none⟩), .slice p n c, .pointer pe] w (FromPost (joinT hd.toList ty a.toList env (some x) (some y) none) w) := by
  have c0 := (cells_of_six hb).1
  have e0 : (hd.toList == [110, 97, 109, 101]) = false := by rw [hh]; rfl
  have e1 : (hd.toList == [98, 105, 116]) = false := by rw [hh]; rfl
  have e2 : (hd.toList == [112, 97, 105, 114]) = false := by rw [hh]; rfl
  have e3 : (hd.toList == [116, 104, 117, 110, 107]) = false := by rw [hh]; rfl
  have e4 : (hd.toList == [114, 101, 116, 117, 114, 110]) = false := by rw [hh]; rfl
  have e5 : (hd.toList == [116, 111]) = false := by rw [hh]; rfl
  have e6 : (hd.toList == [115, 112, 108, 105, 116]) = false := by rw [hh]; rfl
  have e7 : (hd.toList == [102, 111, 114, 99, 101]) = false := by rw [hh]; rfl
  have e8 : (hd.toList == [108, 97, 109]) = false := by rw [hh]; rfl
  have e9 : (hd.toList == [97, 112, 112]) = false := by rw [hh]; rfl
  have e10 : (hd.toList == [105, 102]) = false := by rw [hh]; rfl
  have e11 : (hd.toList == [98, 111, 116, 104]) = true := by rw [hh]; rfl
  obtain ⟨vb, vo, rfl, hc0⟩ := vals_first hv
  have hc1 := vals_next hv 1 rfl
  have i0 : 0 < n := by omega
  have i1 : 1 < n := by omega
  have HJ := hid (show joinT hd.toList ty a.toList env (some x) (some y) none = some (.choice x y) by rw [hh]; rfl)
  obtain ⟨nx, vx, hx⟩ := x.val_iface
  rw [hx] at hc0
  have Hx := hid hx
  clear hx
  obtain ⟨ny, vy, hy⟩ := y.val_iface
  rw [hy] at hc1
  have Hy := hid hy
  clear hy
  clear hb hh hn hv
  go_enter Tryz.func80, Tryz.ntmps80
  go_wp2_with fail
  go_quiet (fail)
  go_wp2_with fail
  go_ret2
  exact fromPost_v HJ.out (by simp only [Ty.val, Hx.out, Hy.out]; rfl) rfl (below_drawn _ _)

set_option maxRecDepth 100000 in
set_option maxHeartbeats 4000000 in
theorem from_fst {b : Nat} {x2 x3 x5 : Value} {t : TypeId} (hd a : ByteArray) (ty : Option Ty) (env : List (ByteArray × Ty)) (x : Ty) (pe p : Option Addr) (n c : Nat) (w : World) (hb : w.heap[b]? = some (.cells #[.string hd, .string a, x2, x3, tyV ty, x5] t (0, 0))) (hh : hd.toList = [102, 115, 116])
    (hn : 1 = n) (hv : Vals w p (([x] : List Ty).map Ty.val)) : Calls Tryz.prog 80 #[.pointer (some ⟨b, 0, none⟩), .slice p n c, .pointer pe] w (FromPost (joinT hd.toList ty a.toList env (some x) none none) w) := by
  have c0 := (cells_of_six hb).1
  have e0 : (hd.toList == [110, 97, 109, 101]) = false := by rw [hh]; rfl
  have e1 : (hd.toList == [98, 105, 116]) = false := by rw [hh]; rfl
  have e2 : (hd.toList == [112, 97, 105, 114]) = false := by rw [hh]; rfl
  have e3 : (hd.toList == [116, 104, 117, 110, 107]) = false := by rw [hh]; rfl
  have e4 : (hd.toList == [114, 101, 116, 117, 114, 110]) = false := by rw [hh]; rfl
  have e5 : (hd.toList == [116, 111]) = false := by rw [hh]; rfl
  have e6 : (hd.toList == [115, 112, 108, 105, 116]) = false := by rw [hh]; rfl
  have e7 : (hd.toList == [102, 111, 114, 99, 101]) = false := by rw [hh]; rfl
  have e8 : (hd.toList == [108, 97, 109]) = false := by rw [hh]; rfl
  have e9 : (hd.toList == [97, 112, 112]) = false := by rw [hh]; rfl
  have e10 : (hd.toList == [105, 102]) = false := by rw [hh]; rfl
  have e11 : (hd.toList == [98, 111, 116, 104]) = false := by rw [hh]; rfl
  have e12 : (hd.toList == [102, 115, 116]) = true := by rw [hh]; rfl
  obtain ⟨vb, vo, rfl, hc0⟩ := vals_first hv
  have i0 : 0 < n := by omega
  have HJ := hid (show joinT hd.toList ty a.toList env (some x) none none = joinT [102, 115, 116] ty a.toList env (some x) none none by rw [hh])
  clear hb hh hn hv
  cases x with
  | bit =>
    simp only [Ty.val] at hc0
    have has1 := as_bit_choice (.agg #[])
    go_enter Tryz.func80, Tryz.ntmps80
    go_wp2_with fail
    go_ret2
    exact fromPost_no (by rw [HJ.out]; rfl) rfl ((Below.refl _ _).alloc (Nat.le_refl _) _)
  | pair u v =>
    simp only [Ty.val] at hc0
    obtain ⟨nu, vu, hu⟩ := u.val_iface
    rw [hu] at hc0
    have Hu := hid hu
    clear hu
    obtain ⟨nv, vv, hv⟩ := v.val_iface
    rw [hv] at hc0
    have Hv := hid hv
    clear hv
    have has1 := as_pair_choice (.agg #[.iface nu vu, .iface nv vv])
    go_enter Tryz.func80, Tryz.ntmps80
    go_wp2_with fail
    go_ret2
    exact fromPost_no (by rw [HJ.out]; rfl) rfl ((Below.refl _ _).alloc (Nat.le_refl _) _)
  | thunk u =>
    simp only [Ty.val] at hc0
    obtain ⟨nu, vu, hu⟩ := u.val_iface
    rw [hu] at hc0
    have Hu := hid hu
    clear hu
    have has1 := as_thunk_choice (.agg #[.iface nu vu])
    go_enter Tryz.func80, Tryz.ntmps80
    go_wp2_with fail
    go_ret2
    exact fromPost_no (by rw [HJ.out]; rfl) rfl ((Below.refl _ _).alloc (Nat.le_refl _) _)
  | ret u =>
    simp only [Ty.val] at hc0
    obtain ⟨nu, vu, hu⟩ := u.val_iface
    rw [hu] at hc0
    have Hu := hid hu
    clear hu
    have has1 := as_ret_choice (.agg #[.iface nu vu])
    go_enter Tryz.func80, Tryz.ntmps80
    go_wp2_with fail
    go_ret2
    exact fromPost_no (by rw [HJ.out]; rfl) rfl ((Below.refl _ _).alloc (Nat.le_refl _) _)
  | fn u v =>
    simp only [Ty.val] at hc0
    obtain ⟨nu, vu, hu⟩ := u.val_iface
    rw [hu] at hc0
    have Hu := hid hu
    clear hu
    obtain ⟨nv, vv, hv⟩ := v.val_iface
    rw [hv] at hc0
    have Hv := hid hv
    clear hv
    have has1 := as_fn_choice (.agg #[.iface nu vu, .iface nv vv])
    go_enter Tryz.func80, Tryz.ntmps80
    go_wp2_with fail
    go_ret2
    exact fromPost_no (by rw [HJ.out]; rfl) rfl ((Below.refl _ _).alloc (Nat.le_refl _) _)
  | choice u v =>
    simp only [Ty.val] at hc0
    obtain ⟨nu, vu, hu⟩ := u.val_iface
    rw [hu] at hc0
    have Hu := hid hu
    clear hu
    obtain ⟨nv, vv, hv⟩ := v.val_iface
    rw [hv] at hc0
    have Hv := hid hv
    clear hv
    have has1 := as_choice_choice (.agg #[.iface nu vu, .iface nv vv])
    go_enter Tryz.func80, Tryz.ntmps80
    go_wp2_with fail
    go_ret2
    exact fromPost_v (t := u) (by rw [HJ.out]; rfl) Hu.out rfl ((Below.refl _ _).alloc (Nat.le_refl _) _)

set_option maxRecDepth 100000 in
set_option maxHeartbeats 4000000 in
theorem from_snd {b : Nat} {x2 x3 x5 : Value} {t : TypeId} (hd a : ByteArray) (ty : Option Ty) (env : List (ByteArray × Ty)) (x : Ty) (pe p : Option Addr) (n c : Nat) (w : World) (hb : w.heap[b]? = some (.cells #[.string hd, .string a, x2, x3, tyV ty, x5] t (0, 0))) (hh : hd.toList = [115, 110, 100])
    (hn : 1 = n) (hv : Vals w p (([x] : List Ty).map Ty.val)) : Calls Tryz.prog 80 #[.pointer (some ⟨b, 0, none⟩), .slice p n c, .pointer pe] w (FromPost (joinT hd.toList ty a.toList env (some x) none none) w) := by
  have c0 := (cells_of_six hb).1
  have e0 : (hd.toList == [110, 97, 109, 101]) = false := by rw [hh]; rfl
  have e1 : (hd.toList == [98, 105, 116]) = false := by rw [hh]; rfl
  have e2 : (hd.toList == [112, 97, 105, 114]) = false := by rw [hh]; rfl
  have e3 : (hd.toList == [116, 104, 117, 110, 107]) = false := by rw [hh]; rfl
  have e4 : (hd.toList == [114, 101, 116, 117, 114, 110]) = false := by rw [hh]; rfl
  have e5 : (hd.toList == [116, 111]) = false := by rw [hh]; rfl
  have e6 : (hd.toList == [115, 112, 108, 105, 116]) = false := by rw [hh]; rfl
  have e7 : (hd.toList == [102, 111, 114, 99, 101]) = false := by rw [hh]; rfl
  have e8 : (hd.toList == [108, 97, 109]) = false := by rw [hh]; rfl
  have e9 : (hd.toList == [97, 112, 112]) = false := by rw [hh]; rfl
  have e10 : (hd.toList == [105, 102]) = false := by rw [hh]; rfl
  have e11 : (hd.toList == [98, 111, 116, 104]) = false := by rw [hh]; rfl
  have e12 : (hd.toList == [102, 115, 116]) = false := by rw [hh]; rfl
  have e13 : (hd.toList == [115, 110, 100]) = true := by rw [hh]; rfl
  obtain ⟨vb, vo, rfl, hc0⟩ := vals_first hv
  have i0 : 0 < n := by omega
  have HJ := hid (show joinT hd.toList ty a.toList env (some x) none none = joinT [115, 110, 100] ty a.toList env (some x) none none by rw [hh])
  clear hb hh hn hv
  cases x with
  | bit =>
    simp only [Ty.val] at hc0
    have has1 := as_bit_choice (.agg #[])
    go_enter Tryz.func80, Tryz.ntmps80
    go_wp2_with fail
    go_ret2
    exact fromPost_no (by rw [HJ.out]; rfl) rfl ((Below.refl _ _).alloc (Nat.le_refl _) _)
  | pair u v =>
    simp only [Ty.val] at hc0
    obtain ⟨nu, vu, hu⟩ := u.val_iface
    rw [hu] at hc0
    have Hu := hid hu
    clear hu
    obtain ⟨nv, vv, hv⟩ := v.val_iface
    rw [hv] at hc0
    have Hv := hid hv
    clear hv
    have has1 := as_pair_choice (.agg #[.iface nu vu, .iface nv vv])
    go_enter Tryz.func80, Tryz.ntmps80
    go_wp2_with fail
    go_ret2
    exact fromPost_no (by rw [HJ.out]; rfl) rfl ((Below.refl _ _).alloc (Nat.le_refl _) _)
  | thunk u =>
    simp only [Ty.val] at hc0
    obtain ⟨nu, vu, hu⟩ := u.val_iface
    rw [hu] at hc0
    have Hu := hid hu
    clear hu
    have has1 := as_thunk_choice (.agg #[.iface nu vu])
    go_enter Tryz.func80, Tryz.ntmps80
    go_wp2_with fail
    go_ret2
    exact fromPost_no (by rw [HJ.out]; rfl) rfl ((Below.refl _ _).alloc (Nat.le_refl _) _)
  | ret u =>
    simp only [Ty.val] at hc0
    obtain ⟨nu, vu, hu⟩ := u.val_iface
    rw [hu] at hc0
    have Hu := hid hu
    clear hu
    have has1 := as_ret_choice (.agg #[.iface nu vu])
    go_enter Tryz.func80, Tryz.ntmps80
    go_wp2_with fail
    go_ret2
    exact fromPost_no (by rw [HJ.out]; rfl) rfl ((Below.refl _ _).alloc (Nat.le_refl _) _)
  | fn u v =>
    simp only [Ty.val] at hc0
    obtain ⟨nu, vu, hu⟩ := u.val_iface
    rw [hu] at hc0
    have Hu := hid hu
    clear hu
    obtain ⟨nv, vv, hv⟩ := v.val_iface
    rw [hv] at hc0
    have Hv := hid hv
    clear hv
    have has1 := as_fn_choice (.agg #[.iface nu vu, .iface nv vv])
    go_enter Tryz.func80, Tryz.ntmps80
    go_wp2_with fail
    go_ret2
    exact fromPost_no (by rw [HJ.out]; rfl) rfl ((Below.refl _ _).alloc (Nat.le_refl _) _)
  | choice u v =>
    simp only [Ty.val] at hc0
    obtain ⟨nu, vu, hu⟩ := u.val_iface
    rw [hu] at hc0
    have Hu := hid hu
    clear hu
    obtain ⟨nv, vv, hv⟩ := v.val_iface
    rw [hv] at hc0
    have Hv := hid hv
    clear hv
    have has1 := as_choice_choice (.agg #[.iface nu vu, .iface nv vv])
    go_enter Tryz.func80, Tryz.ntmps80
    go_wp2_with fail
    go_ret2
    exact fromPost_v (t := v) (by rw [HJ.out]; rfl) Hv.out rfl ((Below.refl _ _).alloc (Nat.le_refl _) _)

set_option maxRecDepth 100000 in
set_option maxHeartbeats 4000000 in
theorem from_get {b : Nat} {x2 x3 x5 : Value} {t : TypeId} (hd a : ByteArray) (ty : Option Ty) (env : List (ByteArray × Ty)) (x : Ty) (pe p : Option Addr) (n c : Nat) (w : World) (hb : w.heap[b]? = some (.cells #[.string hd, .string a, x2, x3, tyV ty, x5] t (0, 0))) (hh : hd.toList = [103, 101, 116])
    (hn : 1 = n) (hv : Vals w p (([x] : List Ty).map Ty.val)) : Calls Tryz.prog 80 #[.pointer (some ⟨b, 0, none⟩), .slice p n c, .pointer pe] w (FromPost (joinT hd.toList ty a.toList env (some x) none none) w) := by
  have c0 := (cells_of_six hb).1
  have e0 : (hd.toList == [110, 97, 109, 101]) = false := by rw [hh]; rfl
  have e1 : (hd.toList == [98, 105, 116]) = false := by rw [hh]; rfl
  have e2 : (hd.toList == [112, 97, 105, 114]) = false := by rw [hh]; rfl
  have e3 : (hd.toList == [116, 104, 117, 110, 107]) = false := by rw [hh]; rfl
  have e4 : (hd.toList == [114, 101, 116, 117, 114, 110]) = false := by rw [hh]; rfl
  have e5 : (hd.toList == [116, 111]) = false := by rw [hh]; rfl
  have e6 : (hd.toList == [115, 112, 108, 105, 116]) = false := by rw [hh]; rfl
  have e7 : (hd.toList == [102, 111, 114, 99, 101]) = false := by rw [hh]; rfl
  have e8 : (hd.toList == [108, 97, 109]) = false := by rw [hh]; rfl
  have e9 : (hd.toList == [97, 112, 112]) = false := by rw [hh]; rfl
  have e10 : (hd.toList == [105, 102]) = false := by rw [hh]; rfl
  have e11 : (hd.toList == [98, 111, 116, 104]) = false := by rw [hh]; rfl
  have e12 : (hd.toList == [102, 115, 116]) = false := by rw [hh]; rfl
  have e13 : (hd.toList == [115, 110, 100]) = false := by rw [hh]; rfl
  have e14 : (hd.toList == [103, 101, 116]) = true := by rw [hh]; rfl
  obtain ⟨vb, vo, rfl, hc0⟩ := vals_first hv
  have i0 : 0 < n := by omega
  have HJ := hid (show joinT hd.toList ty a.toList env (some x) none none = some (x) by rw [hh]; rfl)
  obtain ⟨nx, vx, hx⟩ := x.val_iface
  rw [hx] at hc0
  have Hx := hid hx
  clear hx
  clear hb hh hn hv
  go_enter Tryz.func80, Tryz.ntmps80
  go_wp2_with fail
  go_ret2
  exact fromPost_v HJ.out (by simp only [Hx.out]; rfl) rfl (Below.refl _ _)

set_option maxRecDepth 100000 in
set_option maxHeartbeats 4000000 in
theorem from_fail {b : Nat} {x2 x3 x5 : Value} {t : TypeId} (hd a : ByteArray) (env : List (ByteArray × Ty)) (ty : Ty) (pe p : Option Addr) (n c : Nat) (w : World) (hb : w.heap[b]? = some (.cells #[.string hd, .string a, x2, x3, tyV (some ty), x5] t (0, 0))) (hh : hd.toList = [102, 97, 105, 108])
     : Calls Tryz.prog 80 #[.pointer (some ⟨b, 0, none⟩), .slice p n c, .pointer pe] w (FromPost (joinT hd.toList (some ty) a.toList env none none none) w) := by
  have c0 := (cells_of_six hb).1
  have c4 := (cells_of_six hb).2.2.2.2.1
  simp only [tyV] at c4
  have e0 : (hd.toList == [110, 97, 109, 101]) = false := by rw [hh]; rfl
  have e1 : (hd.toList == [98, 105, 116]) = false := by rw [hh]; rfl
  have e2 : (hd.toList == [112, 97, 105, 114]) = false := by rw [hh]; rfl
  have e3 : (hd.toList == [116, 104, 117, 110, 107]) = false := by rw [hh]; rfl
  have e4 : (hd.toList == [114, 101, 116, 117, 114, 110]) = false := by rw [hh]; rfl
  have e5 : (hd.toList == [116, 111]) = false := by rw [hh]; rfl
  have e6 : (hd.toList == [115, 112, 108, 105, 116]) = false := by rw [hh]; rfl
  have e7 : (hd.toList == [102, 111, 114, 99, 101]) = false := by rw [hh]; rfl
  have e8 : (hd.toList == [108, 97, 109]) = false := by rw [hh]; rfl
  have e9 : (hd.toList == [97, 112, 112]) = false := by rw [hh]; rfl
  have e10 : (hd.toList == [105, 102]) = false := by rw [hh]; rfl
  have e11 : (hd.toList == [98, 111, 116, 104]) = false := by rw [hh]; rfl
  have e12 : (hd.toList == [102, 115, 116]) = false := by rw [hh]; rfl
  have e13 : (hd.toList == [115, 110, 100]) = false := by rw [hh]; rfl
  have e14 : (hd.toList == [103, 101, 116]) = false := by rw [hh]; rfl
  have e15 : (hd.toList == [112, 117, 116]) = false := by rw [hh]; rfl
  have e16 : (hd.toList == [102, 97, 105, 108]) = true := by rw [hh]; rfl
  have HJ := hid (show joinT hd.toList (some ty) a.toList env none none none = some (ty) by rw [hh]; rfl)
  obtain ⟨nty, vty, hty⟩ := ty.val_iface
  rw [hty] at c4
  have Hty := hid hty
  clear hty
  clear hb hh
  go_enter Tryz.func80, Tryz.ntmps80
  go_wp2_with fail
  go_ret2
  exact fromPost_v HJ.out (by simp only [Hty.out]; rfl) rfl (Below.refl _ _)
end Go.Proofs.YtmffcicpiialcaaGreatDoor
