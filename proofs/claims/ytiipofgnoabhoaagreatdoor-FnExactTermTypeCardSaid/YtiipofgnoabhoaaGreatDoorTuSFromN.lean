/- Merged: FromN. -/
import Derived.Test.YtiipofgnoabhoaaGreatDoorTu17
namespace Go.Proofs.YtiipofgnoabhoaaGreatDoor
open Go.RowKit

set_option maxRecDepth 100000 in
set_option maxHeartbeats 4000000 in
theorem from_if_no {b : Nat} {x2 x3 x5 : Value} {t : TypeId} (hd a : ByteArray) (ty : Option Ty) (env : List (ByteArray × Ty)) (x : Ty) (y : Ty) (z : Ty) (pe p : Option Addr) (n c : Nat) (w : World) (hb : w.heap[b]? = some (.cells #[.string hd, .string a, x2, x3, tyV ty, x5] t (0, 0))) (hh : hd.toList = [105, 102])
    (hn : 3 = n) (hv : Vals w p (([x, y, z] : List Ty).map Ty.val)) (hq : x.isBit = false) : Calls Tryz.prog 227 #[.pointer (some ⟨b, 0, none⟩), .slice p n c, .pointer pe] w (FromPost (joinT hd.toList ty a.toList env (some x) (some y) (some z)) w) := by
  have c0 := (cells_of_six hb).1
  have e0 : (hd.toList == [110, 97, 109, 101]) = false := by rw [hh]; rfl
  have e1 : (hd.toList == [98, 105, 116]) = false := by rw [hh]; rfl
  have e2 : (hd.toList == [112, 97, 105, 114]) = false := by rw [hh]; rfl
  have e3 : (hd.toList == [116, 104, 117, 110, 107]) = false := by rw [hh]; rfl
  have e4 : (hd.toList == [114, 101, 116, 117, 114, 110]) = false := by rw [hh]; rfl
  have e5 : (hd.toList == [116, 111]) = false := by rw [hh]; rfl
  have e6 : (hd.toList == [115, 112, 108, 105, 116]) = false := by rw [hh]; rfl
  have e7 : (hd.toList == [102, 111, 114, 99, 101]) = false := by rw [hh]; rfl
  have e8 : (hd.toList == [108, 97, 109]) = false := by rw [hh]; rfl
  have e9 : (hd.toList == [97, 112, 112]) = false := by rw [hh]; rfl
  have e10 : (hd.toList == [105, 102]) = true := by rw [hh]; rfl
  obtain ⟨vb, vo, rfl, hc0⟩ := vals_first hv
  have hc1 := vals_next hv 1 rfl
  have hc2 := vals_next hv 2 rfl
  have i0 : 0 < n := by omega
  have i1 : 1 < n := by omega
  have i2 : 2 < n := by omega
  have HJ := hid (show joinT hd.toList ty a.toList env (some x) (some y) (some z) = none by rw [hh]; cases x <;> first | rfl | simp [Ty.isBit] at hq)
  have HX := hid (fun W => isBit_any x W)
  have hl := World.block_lt_of_cell? w _ hc1
  obtain ⟨nx, vx, hx⟩ := x.val_iface
  rw [hx] at hc0
  have Hx := hid hx
  clear hx
  obtain ⟨ny, vy, hy⟩ := y.val_iface
  rw [hy] at hc1
  have Hy := hid hy
  clear hy
  obtain ⟨nz, vz, hz⟩ := z.val_iface
  rw [hz] at hc2
  have Hz := hid hz
  clear hz
  rw [Hx.out, hq] at HX
  have j0 : (0 : Int) < (n : Int) := by omega
  have j1 : (1 : Int) < (n : Int) := by omega
  have j2 : (2 : Int) < (n : Int) := by omega
  have KC := hid (fun (W : World) (h : Below w.heap.size w W) => (show W.cell? ⟨vb, vo, none⟩ = _ ∧ W.cell? ⟨vb, vo + 1, none⟩ = _ ∧ W.cell? ⟨vb, vo + 2, none⟩ = _ from ⟨(h.cell (p := ⟨vb, vo, none⟩) hl).trans hc0, (h.cell (p := ⟨vb, vo + 1, none⟩) hl).trans hc1, (h.cell (p := ⟨vb, vo + 2, none⟩) hl).trans hc2⟩))
  clear hb hh hn hv hl hq
  go_enter Tryz.func227, Tryz.ntmps227
  go_wp2_with fail
  refine wp_region_any (by kernel_rfl) ?_
  try (change wpAny _ _ _ _ _ _ _ (World.drew _))
  refine wpAny_take (i := 0) (v := ?v1) rfl (by kernel_rfl) (by kernel_rfl) (by kernel_rfl) (fun _ _ _ h => h) (Or.inl ⟨by rfl, ?y1⟩) ?r1
  case y1 => (intro wq; go_simp; try with_reducible rfl)
  try go_simp
  refine wpAny_take (i := 1) (v := ?v2) rfl (by kernel_rfl) (by kernel_rfl) (by kernel_rfl) (fun _ _ _ h => h) (Or.inl ⟨by rfl, ?y2⟩) ?r2
  case y2 => (intro wq; go_simp; try with_reducible rfl)
  try go_simp
  refine wpAny_take (i := 3) (v := ?v3) rfl (by kernel_rfl) (by kernel_rfl) (by kernel_rfl) (fun _ _ _ h => h) (Or.inl ⟨by rfl, ?y3⟩) ?r3
  case y3 => (intro wq; go_simp; try with_reducible rfl)
  try go_simp
  refine wpAny_take (i := 4) (v := ?v4) rfl (by kernel_rfl) (by kernel_rfl) (by kernel_rfl) (fun _ _ _ h => h) (Or.inl ⟨by rfl, ?y4⟩) ?r4
  case y4 => (intro wq; go_simp; try with_reducible rfl)
  try go_simp
  refine wpAny_ready (rs := [2, 5]) (by kernel_rfl) (by simp) ?_
  refine AllReady.cons rfl (fun K hK => ?_) (AllReady.cons rfl (fun K hK => ?_) AllReady.nil)
  · go_simp
    refine hK _ _ ?_
    clear hK K
    refine wpAny_ready (rs := [5]) (by kernel_rfl) (by simp) ?_
    refine AllReady.cons rfl (fun K hK => ?_) AllReady.nil
    go_simp
    refine hK _ _ ?_
    clear hK K
    refine wpAny_ready (rs := [6]) (by kernel_rfl) (by simp) ?_
    refine AllReady.cons rfl (fun K hK => ?_) AllReady.nil
    go_simp
    go_wp2_with (go_at_call 248; refine (HX.out _).mono ?_; rintro e w1 ⟨rfl, hb1⟩; have hb01 := (Below.refl w.heap.size w).drew.trans hb1; have k1 := KC.out _ hb01; have HB := hid hb01; clear hb1 hb01)
    refine wpAny_take (i := 7) (v := ?v5) rfl (by kernel_rfl) (by kernel_rfl) (by kernel_rfl) (fun _ _ _ h => h) (Or.inl ⟨by rfl, ?y5⟩) ?r5
    case y5 => (intro wq; go_simp; try with_reducible rfl)
    try go_simp
    refine wpAny_take (i := 8) (v := undef) rfl (by kernel_rfl) (by kernel_rfl) (by kernel_rfl) (fun _ _ _ h => h) (Or.inr ⟨by rfl, rfl⟩) ?_
    try go_simp
    refine wpAny_take (i := 9) (v := undef) rfl (by kernel_rfl) (by kernel_rfl) (by kernel_rfl) (fun _ _ _ h => h) (Or.inr ⟨by rfl, rfl⟩) ?_
    try go_simp
    refine wpAny_take (i := 10) (v := undef) rfl (by kernel_rfl) (by kernel_rfl) (by kernel_rfl) (fun _ _ _ h => h) (Or.inr ⟨by rfl, rfl⟩) ?_
    try go_simp
    refine wpAny_take (i := 11) (v := undef) rfl (by kernel_rfl) (by kernel_rfl) (by kernel_rfl) (fun _ _ _ h => h) (Or.inr ⟨by rfl, rfl⟩) ?_
    try go_simp
    refine wpAny_take (i := 12) (v := undef) rfl (by kernel_rfl) (by kernel_rfl) (by kernel_rfl) (fun _ _ _ h => h) (Or.inr ⟨by rfl, rfl⟩) ?_
    try go_simp
    refine wpAny_take (i := 13) (v := undef) rfl (by kernel_rfl) (by kernel_rfl) (by kernel_rfl) (fun _ _ _ h => h) (Or.inr ⟨by rfl, rfl⟩) ?_
    try go_simp
    refine wpAny_take (i := 14) (v := undef) rfl (by kernel_rfl) (by kernel_rfl) (by kernel_rfl) (fun _ _ _ h => h) (Or.inr ⟨by rfl, rfl⟩) ?_
    try go_simp
    refine wpAny_take (i := 15) (v := ?v6) rfl (by kernel_rfl) (by kernel_rfl) (by kernel_rfl) (fun _ _ _ h => h) (Or.inl ⟨by rfl, ?y6⟩) ?r6
    case y6 => (intro wq; go_simp; try with_reducible rfl)
    try go_simp
    refine wpAny_take (i := 16) (v := ?v7) rfl (by kernel_rfl) (by kernel_rfl) (by kernel_rfl) (fun _ _ _ h => h) (Or.inl ⟨by rfl, ?y7⟩) ?r7
    case y7 => (intro wq; go_simp; try with_reducible rfl)
    try go_simp
    refine wpAny_take (i := 17) (v := ?v8) rfl (by kernel_rfl) (by kernel_rfl) (by kernel_rfl) (fun _ _ _ h => h) (Or.inl ⟨by rfl, ?y8⟩) ?r8
    case y8 => (intro wq; go_simp; try with_reducible rfl)
    try go_simp
    refine wpAny_done (by kernel_rfl) ?_ _
    go_wp2_with fail
    go_ret2
    exact fromPost_no HJ.out rfl HB.out
  · go_simp
    refine hK _ _ ?_
    clear hK K
    refine wpAny_ready (rs := [2, 6]) (by kernel_rfl) (by simp) ?_
    refine AllReady.cons rfl (fun K hK => ?_) (AllReady.cons rfl (fun K hK => ?_) AllReady.nil)
    · go_simp
      refine hK _ _ ?_
      clear hK K
      refine wpAny_ready (rs := [6]) (by kernel_rfl) (by simp) ?_
      refine AllReady.cons rfl (fun K hK => ?_) AllReady.nil
      go_simp
      go_wp2_with (go_at_call 248; refine (HX.out _).mono ?_; rintro e w1 ⟨rfl, hb1⟩; have hb01 := (Below.refl w.heap.size w).drew.trans hb1; have k1 := KC.out _ hb01; have HB := hid hb01; clear hb1 hb01)
      refine wpAny_take (i := 7) (v := ?v9) rfl (by kernel_rfl) (by kernel_rfl) (by kernel_rfl) (fun _ _ _ h => h) (Or.inl ⟨by rfl, ?y9⟩) ?r9
      case y9 => (intro wq; go_simp; try with_reducible rfl)
      try go_simp
      refine wpAny_take (i := 8) (v := undef) rfl (by kernel_rfl) (by kernel_rfl) (by kernel_rfl) (fun _ _ _ h => h) (Or.inr ⟨by rfl, rfl⟩) ?_
      try go_simp
      refine wpAny_take (i := 9) (v := undef) rfl (by kernel_rfl) (by kernel_rfl) (by kernel_rfl) (fun _ _ _ h => h) (Or.inr ⟨by rfl, rfl⟩) ?_
      try go_simp
      refine wpAny_take (i := 10) (v := undef) rfl (by kernel_rfl) (by kernel_rfl) (by kernel_rfl) (fun _ _ _ h => h) (Or.inr ⟨by rfl, rfl⟩) ?_
      try go_simp
      refine wpAny_take (i := 11) (v := undef) rfl (by kernel_rfl) (by kernel_rfl) (by kernel_rfl) (fun _ _ _ h => h) (Or.inr ⟨by rfl, rfl⟩) ?_
      try go_simp
      refine wpAny_take (i := 12) (v := undef) rfl (by kernel_rfl) (by kernel_rfl) (by kernel_rfl) (fun _ _ _ h => h) (Or.inr ⟨by rfl, rfl⟩) ?_
      try go_simp
      refine wpAny_take (i := 13) (v := undef) rfl (by kernel_rfl) (by kernel_rfl) (by kernel_rfl) (fun _ _ _ h => h) (Or.inr ⟨by rfl, rfl⟩) ?_
      try go_simp
      refine wpAny_take (i := 14) (v := undef) rfl (by kernel_rfl) (by kernel_rfl) (by kernel_rfl) (fun _ _ _ h => h) (Or.inr ⟨by rfl, rfl⟩) ?_
      try go_simp
      refine wpAny_take (i := 15) (v := ?v10) rfl (by kernel_rfl) (by kernel_rfl) (by kernel_rfl) (fun _ _ _ h => h) (Or.inl ⟨by rfl, ?y10⟩) ?r10
      case y10 => (intro wq; go_simp; try with_reducible rfl)
      try go_simp
      refine wpAny_take (i := 16) (v := ?v11) rfl (by kernel_rfl) (by kernel_rfl) (by kernel_rfl) (fun _ _ _ h => h) (Or.inl ⟨by rfl, ?y11⟩) ?r11
      case y11 => (intro wq; go_simp; try with_reducible rfl)
      try go_simp
      refine wpAny_take (i := 17) (v := ?v12) rfl (by kernel_rfl) (by kernel_rfl) (by kernel_rfl) (fun _ _ _ h => h) (Or.inl ⟨by rfl, ?y12⟩) ?r12
      case y12 => (intro wq; go_simp; try with_reducible rfl)
      try go_simp
      refine wpAny_done (by kernel_rfl) ?_ _
      go_wp2_with fail
      go_ret2
      exact fromPost_no HJ.out rfl HB.out
    · go_simp
      go_wp2_with (go_at_call 248; refine (HX.out _).mono ?_; rintro e w1 ⟨rfl, hb1⟩; have hb01 := (Below.refl w.heap.size w).drew.trans hb1; have k1 := KC.out _ hb01; have HB := hid hb01; clear hb1 hb01)
      refine wpAny_take (i := 7) (v := ?v13) rfl (by kernel_rfl) (by kernel_rfl) (by kernel_rfl) (fun _ _ _ h => h) (Or.inl ⟨by rfl, ?y13⟩) ?r13
      case y13 => (intro wq; go_simp; try with_reducible rfl)
      try go_simp
      refine wpAny_take (i := 8) (v := undef) rfl (by kernel_rfl) (by kernel_rfl) (by kernel_rfl) (fun _ _ _ h => h) (Or.inr ⟨by rfl, rfl⟩) ?_
      try go_simp
      refine wpAny_take (i := 9) (v := undef) rfl (by kernel_rfl) (by kernel_rfl) (by kernel_rfl) (fun _ _ _ h => h) (Or.inr ⟨by rfl, rfl⟩) ?_
      try go_simp
      refine wpAny_take (i := 10) (v := undef) rfl (by kernel_rfl) (by kernel_rfl) (by kernel_rfl) (fun _ _ _ h => h) (Or.inr ⟨by rfl, rfl⟩) ?_
      try go_simp
      refine wpAny_take (i := 11) (v := undef) rfl (by kernel_rfl) (by kernel_rfl) (by kernel_rfl) (fun _ _ _ h => h) (Or.inr ⟨by rfl, rfl⟩) ?_
      try go_simp
      refine wpAny_take (i := 12) (v := undef) rfl (by kernel_rfl) (by kernel_rfl) (by kernel_rfl) (fun _ _ _ h => h) (Or.inr ⟨by rfl, rfl⟩) ?_
      try go_simp
      refine wpAny_take (i := 13) (v := undef) rfl (by kernel_rfl) (by kernel_rfl) (by kernel_rfl) (fun _ _ _ h => h) (Or.inr ⟨by rfl, rfl⟩) ?_
      try go_simp
      refine wpAny_take (i := 14) (v := undef) rfl (by kernel_rfl) (by kernel_rfl) (by kernel_rfl) (fun _ _ _ h => h) (Or.inr ⟨by rfl, rfl⟩) ?_
      try go_simp
      refine wpAny_take (i := 15) (v := ?v14) rfl (by kernel_rfl) (by kernel_rfl) (by kernel_rfl) (fun _ _ _ h => h) (Or.inl ⟨by rfl, ?y14⟩) ?r14
      case y14 => (intro wq; go_simp; try with_reducible rfl)
      try go_simp
      refine wpAny_ready (rs := [2]) (by kernel_rfl) (by simp) ?_
      refine AllReady.cons rfl (fun K hK => ?_) AllReady.nil
      go_simp
      refine hK _ _ ?_
      clear hK K
      refine wpAny_take (i := 16) (v := ?v15) rfl (by kernel_rfl) (by kernel_rfl) (by kernel_rfl) (fun _ _ _ h => h) (Or.inl ⟨by rfl, ?y15⟩) ?r15
      case y15 => (intro wq; go_simp; try with_reducible rfl)
      try go_simp
      refine wpAny_take (i := 17) (v := ?v16) rfl (by kernel_rfl) (by kernel_rfl) (by kernel_rfl) (fun _ _ _ h => h) (Or.inl ⟨by rfl, ?y16⟩) ?r16
      case y16 => (intro wq; go_simp; try with_reducible rfl)
      try go_simp
      refine wpAny_done (by kernel_rfl) ?_ _
      go_wp2_with fail
      go_ret2
      exact fromPost_no HJ.out rfl HB.out
end Go.Proofs.YtiipofgnoabhoaaGreatDoor
