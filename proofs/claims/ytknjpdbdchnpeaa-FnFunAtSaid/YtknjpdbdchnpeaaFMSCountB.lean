/- Merged: CountB. -/
import Derived.Deep.QuietTactic
import Derived.BigQuiet
import Derived.Test.YtknjpdbdchnpeaaFMSCountA
namespace Go.Proofs.Ytknjpdbdchnpeaa
open Go.RowKit

theorem outcomes_any (z : Int) (h0 : 0 ≤ z) (h1 : z ≤ 5000) (w : World) : Calls Try.prog 78 #[.int .i64 z] w fun e w' => e = .returned (.int .i64 (2 * z + 1)) ∧ w' = w := by
  go_enter Try.func78, Try.ntmps78
  go_wp2_with fail
  go_ret
  exact ⟨rfl, rfl⟩
/-- A power's number as the program tells it: itself up to the limit, else some number beyond. -/
def powOk (y x : Nat) (z : Int) : Prop := (z ≤ 5000 → z = ((y ^ x : Nat) : Int) ∧ y ^ x ≤ 5000) ∧ (5000 < z → 5000 < y ^ x)
/-- The program's way to a power. -/
def pw (y : Nat) : Nat → Nat → Nat
  | 0, o => o
  | r + 1, o => if 5000 < o * y then o * y else pw y r (o * y)
theorem pw_spec (y : Nat) (hy : 1 ≤ y) (hy2 : y ≤ 5000) : ∀ r o, o ≤ 5000 → (pw y r o ≤ 5000 → pw y r o = o * y ^ r) ∧ (5000 < pw y r o → 5000 < o * y ^ r) ∧ pw y r o ≤ 25000000
  | 0, o, h => ⟨fun _ => by simp [pw], fun hz => by simp [pw] at hz; omega, by simp [pw]; omega⟩
  | r + 1, o, h => by
    have hm : o * y ≤ 5000 * 5000 := Nat.mul_le_mul h hy2
    have he : o * y ^ (r + 1) = o * y * y ^ r := by rw [Nat.pow_succ, Nat.mul_comm (y ^ r) y, Nat.mul_assoc]
    rw [pw, he]
    by_cases hb : 5000 < o * y
    · rw [if_pos hb]
      have h1 : o * y * 1 ≤ o * y * y ^ r := Nat.mul_le_mul_left _ (Nat.pow_pos hy)
      exact ⟨fun h => by omega, fun _ => by omega, hm⟩
    · rw [if_neg hb]
      exact pw_spec y hy hy2 r (o * y) (by omega)
theorem pw_ok (y x : Nat) (hy : 1 ≤ y) (hy2 : y ≤ 5000) : powOk y x (pw y x 1 : Nat) := by
  have h := pw_spec y hy hy2 x 1 (by decide)
  rw [Nat.one_mul] at h
  exact ⟨fun hz => by have := h.1 (by omega); rw [this] at hz ⊢; exact ⟨rfl, by omega⟩, fun hz => h.2.1 (by omega)⟩
set_option maxRecDepth 100000 in
set_option maxHeartbeats 1000000 in
theorem countPower_any (y x : Nat) (hy2 : y ≤ 5000) (hx : x ≤ 5000) (w : World) : Calls Try.prog 79 #[.int .i64 (y : Int), .int .i64 (x : Int)] w fun e w' => e = .returned (.int .i64 ((pw y x 1 : Nat) : Int)) ∧ w' = w := by
  obtain ⟨T, hT⟩ : ∃ T, pw y x 1 = T := ⟨_, rfl⟩
  rw [hT]
  have HT := hid hT
  clear hT
  go_enter Try.func79, Try.ntmps79
  go_wp2_with fail
  go_loopw [5, 7] (fun v u wr => ∃ (i o : Nat), i ≤ x ∧ u = .int .i64 (i : Int) ∧ v = .int .i64 (o : Int) ∧ o ≤ 5000 ∧ Hid (pw y (x - i) o = T) ∧ wr = w) (fun _ u _ => x - (intOf u).toNat)
  case atStart => exact ⟨0, 1, Nat.zero_le _, rfl, rfl, by decide, HT, rfl⟩
  case round =>
    obtain ⟨i, o, hi, rfl, rfl, ho, hop, rfl⟩ := hrel
    by_cases hlt : i < x
    · have hm : o * y ≤ 5000 * 5000 := Nat.mul_le_mul ho hy2
      obtain ⟨q, hq⟩ : ∃ q, o * y = q := ⟨_, rfl⟩
      have hqi : (o : Int) * (y : Int) = (q : Int) := by rw [← hq]; simp
      have hop2 := hop.out
      rw [show x - i = (x - (i + 1)) + 1 by omega, pw, hq] at hop2
      have HOP := hid hop2
      rw [hq] at hm
      clear hop2 hq
      by_cases hbig : 5000 < q
      · go_wp2_with fail
        go_ret
        have h3 := HOP.out
        rw [if_pos hbig] at h3
        exact ⟨ret_int (by rw [h3]), rfl⟩
      · go_wp2_with fail
        go_roundw
        case rel =>
          have h3 := HOP.out
          rw [if_neg hbig] at h3
          exact ⟨i + 1, q, by omega, by go_num, rfl, by omega, hid h3, by first | trivial | rfl⟩
        case measure => simp [intOf]; omega
    · have hix : i = x := by omega
      have HI := hid hix
      clear hix
      go_wp2_with fail
      go_ret
      have h2 := hop.out
      rw [HI.out, Nat.sub_self, pw] at h2
      exact ⟨ret_int (by rw [h2]), rfl⟩
/-- What a head's count from its parts' counts tells. -/
def fromOk (t : Ty) (z : Int) : Prop := 0 ≤ z ∧ (z ≤ 5000 → cntV t.cnt = z) ∧ (5000 < z → t.cnt = none)
/-- What countFrom leaves. -/
def FromPost (t : Ty) (w : World) (e : Ending) (w' : World) : Prop := (∃ z : Int, e = .returned (.int .i64 z) ∧ fromOk t z ∧ z ≤ 200000000) ∧ Below w.heap.size w w'
theorem fromOk_nat {t : Ty} {n : Nat} (h : t.cnt = capped n) : fromOk t (n : Int) := by
  refine ⟨by omega, fun hz => ?_, fun hz => ?_⟩
  · rw [h, capped, if_pos (by omega)]; rfl
  · rw [h, capped, if_neg (by omega)]
theorem cell_alloc_old {w : World} {a : Addr} {v : Value} (h : w.cell? a = some v) (o : Obj) : (w.alloc o).cell? a = some v := (World.cell?_of_block (w := w) (heap_alloc_old w o (World.block_lt_of_cell? w _ h))).trans h

set_option maxRecDepth 100000 in
set_option maxHeartbeats 1000000 in
theorem countFrom_pair (tx ty : Ty) (x y g c : Nat) (w : World) (hx : tx.cnt = some x) (hy : ty.cnt = some y) (c0 : w.cell? ⟨g, 0, none⟩ = some (.int .i64 (x : Int))) (c1 : w.cell? ⟨g, 1, none⟩ = some (.int .i64 (y : Int))) :
    Calls Try.prog 132 #[.agg #[tx.val, ty.val], .slice (some ⟨g, 0, none⟩) 2 c] w (FromPost (.pair tx ty) w) := by
  have r1 := cnt_range tx x hx
  have r2 := cnt_range ty y hy
  have hok := hid (fromOk_nat (t := .pair tx ty) (n := x * y) (by simp [Ty.cnt, hx, hy]))
  obtain ⟨ux, vx, hvx⟩ := tx.val_iface
  rw [hvx]
  obtain ⟨uy, vy, hvy⟩ := ty.val_iface
  rw [hvy]
  have a0 := fun o => cell_alloc_old c0 o
  have a1 := fun o => cell_alloc_old c1 o
  have hm : x * y ≤ 5000 * 5000 := Nat.mul_le_mul r1.2 r2.2
  obtain ⟨q, hq⟩ : ∃ q, x * y = q := ⟨_, rfl⟩
  have hqi : (x : Int) * (y : Int) = (q : Int) := by rw [← hq]; simp
  rw [hq] at hm
  have HQ := hid hq
  clear hq hx hy hvx hvy c0 c1
  go_enter Try.func132, Try.ntmps132
  go_wp2_with fail
  go_quiet (fail)
  go_wp2_with fail
  go_ret
  refine ⟨⟨(q : Int), ret_int (by first | rfl | omega), ?_, by omega⟩, below_drewN ((Below.refl _ _).alloc (by simp) _) _⟩
  rw [← HQ.out]; exact hok.out

set_option maxRecDepth 100000 in
set_option maxHeartbeats 1000000 in
theorem countFrom_choice (tx ty : Ty) (x y g c : Nat) (w : World) (hx : tx.cnt = some x) (hy : ty.cnt = some y) (c0 : w.cell? ⟨g, 0, none⟩ = some (.int .i64 (x : Int))) (c1 : w.cell? ⟨g, 1, none⟩ = some (.int .i64 (y : Int))) :
    Calls Try.prog 148 #[.agg #[tx.val, ty.val], .slice (some ⟨g, 0, none⟩) 2 c] w (FromPost (.choice tx ty) w) := by
  have r1 := cnt_range tx x hx
  have r2 := cnt_range ty y hy
  have hok := hid (fromOk_nat (t := .choice tx ty) (n := x * y) (by simp [Ty.cnt, hx, hy]))
  obtain ⟨ux, vx, hvx⟩ := tx.val_iface
  rw [hvx]
  obtain ⟨uy, vy, hvy⟩ := ty.val_iface
  rw [hvy]
  have a0 := fun o => cell_alloc_old c0 o
  have a1 := fun o => cell_alloc_old c1 o
  have hm : x * y ≤ 5000 * 5000 := Nat.mul_le_mul r1.2 r2.2
  obtain ⟨q, hq⟩ : ∃ q, x * y = q := ⟨_, rfl⟩
  have hqi : (x : Int) * (y : Int) = (q : Int) := by rw [← hq]; simp
  rw [hq] at hm
  have HQ := hid hq
  clear hq hx hy hvx hvy c0 c1
  go_enter Try.func148, Try.ntmps148
  go_wp2_with fail
  go_quiet (fail)
  go_wp2_with fail
  go_ret
  refine ⟨⟨(q : Int), ret_int (by first | rfl | omega), ?_, by omega⟩, below_drewN ((Below.refl _ _).alloc (by simp) _) _⟩
  rw [← HQ.out]; exact hok.out

set_option maxRecDepth 100000 in
set_option maxHeartbeats 1000000 in
theorem countFrom_thunk (tx : Ty) (x g c : Nat) (w : World) (hx : tx.cnt = some x) (c0 : w.cell? ⟨g, 0, none⟩ = some (.int .i64 (x : Int))) :
    Calls Try.prog 136 #[.agg #[tx.val], .slice (some ⟨g, 0, none⟩) 1 c] w (FromPost (.thunk tx) w) := by
  have r1 := cnt_range tx x hx
  have hok := hid (show fromOk (.thunk tx) (x : Int) from ⟨by omega, fun _ => by rw [Ty.cnt, hx]; rfl, fun _ => by omega⟩)
  obtain ⟨ux, vx, hvx⟩ := tx.val_iface
  rw [hvx]
  have a0 := fun o => cell_alloc_old c0 o
  clear hx hvx c0
  go_enter Try.func136, Try.ntmps136
  go_wp2_with fail
  go_ret
  exact ⟨⟨(x : Int), rfl, hok.out, by omega⟩, (Below.refl _ _).alloc (by simp) _⟩
theorem countFrom_bit (p : Option Addr) (n c : Nat) (w : World) : Calls Try.prog 127 #[.agg #[], .slice p n c] w (FromPost .bit w) := by
  go_enter Try.func127, Try.ntmps127
  go_wp2_with fail
  go_ret
  exact ⟨⟨2, rfl, ⟨by decide, fun _ => rfl, fun h => by omega⟩, by decide⟩, (Below.refl _ _).alloc (by simp) _⟩

set_option maxRecDepth 100000 in
set_option maxHeartbeats 1000000 in
theorem countFrom_ret (tx : Ty) (x g c : Nat) (w : World) (hx : tx.cnt = some x) (c0 : w.cell? ⟨g, 0, none⟩ = some (.int .i64 (x : Int))) :
    Calls Try.prog 140 #[.agg #[tx.val], .slice (some ⟨g, 0, none⟩) 1 c] w (FromPost (.ret tx) w) := by
  have r1 := cnt_range tx x hx
  have hok := hid (fromOk_nat (t := .ret tx) (n := (2 * x + 1) * (2 * x + 1)) (by simp [Ty.cnt, hx]))
  obtain ⟨ux, vx, hvx⟩ := tx.val_iface
  rw [hvx]
  have a0 := fun o => cell_alloc_old c0 o
  have hm : (2 * x + 1) * (2 * x + 1) ≤ 10001 * 10001 := Nat.mul_le_mul (by omega) (by omega)
  obtain ⟨q, hq⟩ : ∃ q, (2 * x + 1) * (2 * x + 1) = q := ⟨_, rfl⟩
  have hqi : (2 * (x : Int) + 1) * (2 * (x : Int) + 1) = (q : Int) := by rw [← hq]; simp
  rw [hq] at hm
  have HQ := hid hq
  clear hq hx hvx c0
  go_enter Try.func140, Try.ntmps140
  go_wp2_with fail
  go_quiet ((go_at_call 78; exact Calls.quiet_of_same (outcomes_any (x : Int) (by omega) (by omega) _)))
  go_wp2_with fail
  go_ret
  refine ⟨⟨(q : Int), ret_int (by first | rfl | omega), ?_, by omega⟩, below_drewN ((Below.refl _ _).alloc (by simp) _) _⟩
  rw [← HQ.out]; exact hok.out

set_option maxRecDepth 100000 in
set_option maxHeartbeats 1000000 in
theorem countFrom_fn (tx ty : Ty) (x y g c : Nat) (w : World) (hx : tx.cnt = some x) (hy : ty.cnt = some y) (c0 : w.cell? ⟨g, 0, none⟩ = some (.int .i64 (x : Int))) (c1 : w.cell? ⟨g, 1, none⟩ = some (.int .i64 (y : Int))) :
    Calls Try.prog 144 #[.agg #[tx.val, ty.val], .slice (some ⟨g, 0, none⟩) 2 c] w (FromPost (.fn tx ty) w) := by
  have r1 := cnt_range tx x hx
  have r2 := cnt_range ty y hy
  have hcn := hid (show (Ty.fn tx ty).cnt = capped (y ^ x) by simp [Ty.cnt, hx, hy])
  obtain ⟨ux, vx, hvx⟩ := tx.val_iface
  rw [hvx]
  obtain ⟨uy, vy, hvy⟩ := ty.val_iface
  rw [hvy]
  have a0 := fun o => cell_alloc_old c0 o
  have a1 := fun o => cell_alloc_old c1 o
  clear hx hy hvx hvy c0 c1
  go_enter Try.func144, Try.ntmps144
  go_wp2_with fail
  go_quiet ((go_at_call 79; exact Calls.quiet_of_same (countPower_any y x (by omega) (by omega) _)))
  go_wp2_with fail
  go_ret
  have HZ := pw_ok y x (by omega) (by omega)
  refine ⟨⟨((pw y x 1 : Nat) : Int), rfl, ⟨by omega, fun h => ?_, fun h => ?_⟩, by have := (pw_spec y (by omega) (by omega) x 1 (by decide)).2.2; omega⟩, below_drewN ((Below.refl _ _).alloc (by simp) _) _⟩
  · obtain ⟨h1, h2⟩ := HZ.1 h
    rw [hcn.out, capped, if_pos h2, h1]; rfl
  · have := HZ.2 h
    rw [hcn.out, capped, if_neg (by omega)]
end Go.Proofs.Ytknjpdbdchnpeaa
