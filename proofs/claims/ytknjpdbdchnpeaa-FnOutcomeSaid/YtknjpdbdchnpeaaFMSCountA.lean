/- Merged: CountA. -/
import Derived.Test.YtknjpdbdchnpeaaFM7
import Derived.Test.YtknjpdbdchnpeaaFM4
namespace Go.Proofs.Ytknjpdbdchnpeaa
open Go.RowKit

/-- A count is known up to a limit. -/
def capped (n : Nat) : Option Nat := if n ≤ 5000 then some n else none
def Ty.cnt : Ty → Option Nat
  | .bit => some 2
  | .pair a b => match a.cnt, b.cnt with
    | some x, some y => capped (x * y)
    | _, _ => none
  | .thunk c => c.cnt
  | .ret a => match a.cnt with
    | some x => capped ((2 * x + 1) * (2 * x + 1))
    | none => none
  | .fn a c => match a.cnt, c.cnt with
    | some x, some y => capped (y ^ x)
    | _, _ => none
  | .choice c d => match c.cnt, d.cnt with
    | some x, some y => capped (x * y)
    | _, _ => none
/-- A count as a number, -1 where it is not known. -/
def cntV : Option Nat → Int
  | some n => n
  | none => -1
theorem capped_some {n m : Nat} (h : capped n = some m) : m = n ∧ n ≤ 5000 := by
  unfold capped at h; split at h
  · simp at h; exact ⟨h.symm, by assumption⟩
  · simp at h
theorem two_pow (y : Nat) (hy : 2 ≤ y) : ∀ x, 1 ≤ x → 2 ≤ y ^ x
  | 0, h => by omega
  | x + 1, _ => by rw [Nat.pow_succ]; exact Nat.le_trans hy (Nat.le_mul_of_pos_left y (Nat.pow_pos (by omega)))
theorem cnt_range : ∀ (t : Ty) (n : Nat), t.cnt = some n → 2 ≤ n ∧ n ≤ 5000
  | .bit, n, h => by simp [Ty.cnt] at h; omega
  | .pair a b, n, h => by
    rw [Ty.cnt] at h; split at h
    · rename_i x y hx hy
      have h1 := cnt_range a x hx; have h2 := cnt_range b y hy; have := capped_some h
      have h3 : 2 * 2 ≤ x * y := Nat.mul_le_mul h1.1 h2.1
      omega
    · simp at h
  | .thunk c, n, h => cnt_range c n h
  | .ret a, n, h => by
    rw [Ty.cnt] at h; split at h
    · rename_i x hx
      have h1 := cnt_range a x hx; have := capped_some h
      have h3 : 5 * 5 ≤ (2 * x + 1) * (2 * x + 1) := Nat.mul_le_mul (by omega) (by omega)
      omega
    · simp at h
  | .fn a c, n, h => by
    rw [Ty.cnt] at h; split at h
    · rename_i x y hx hy
      have h1 := cnt_range a x hx; have h2 := cnt_range c y hy; have := capped_some h
      have := two_pow y h2.1 x (by omega)
      omega
    · simp at h
  | .choice a b, n, h => by
    rw [Ty.cnt] at h; split at h
    · rename_i x y hx hy
      have h1 := cnt_range a x hx; have h2 := cnt_range b y hy; have := capped_some h
      have h3 : 2 * 2 ≤ x * y := Nat.mul_le_mul h1.1 h2.1
      omega
    · simp at h
theorem min_pow (y i : Nat) (hy : 1 ≤ y) : min 5001 (min 5001 (y ^ i) * y) = min 5001 (y ^ (i + 1)) := by
  rw [Nat.pow_succ]
  by_cases h : y ^ i ≤ 5001
  · rw [Nat.min_eq_right h]
  · rw [show min 5001 (y ^ i) = 5001 from Nat.min_eq_left (by omega)]
    have h1 : 5001 * 1 ≤ 5001 * y := Nat.mul_le_mul_left _ hy
    have h2 : 5001 * 1 ≤ y ^ i * y := Nat.mul_le_mul (by omega) hy
    omega

set_option maxRecDepth 100000 in
set_option maxHeartbeats 2000000 in
theorem l1Count_neg1 {w : World} {b cap : Nat} {x : ByteArray} {a1 : ByteArray} {p1 : Option Addr} {n1 m1 : Nat} {z1 : Int} (hcap : 2 ≤ cap ∧ cap ≤ maxLen) (c0 : w.cell? ⟨b, 0, none⟩ = some (.string x)) (c2 : w.cell? ⟨b, 2, none⟩ = some (.string a1)) (c3 : w.cell? ⟨b, 3, none⟩ = some (.slice p1 n1 m1)) (H1 : ∀ W, Kept w W → w.heap.size ≤ W.heap.size → Calls Try.prog 51 #[.agg #[.string a1, .slice p1 n1 m1]] W fun e w' => e = .returned (.int .i64 z1) ∧ Below W.heap.size W w') (hz : z1 < 0) :
    Calls Try.prog 51 #[.agg #[.string ByteArray.empty, .slice (some ⟨b, 0, none⟩) 2 cap]] w fun e w' => e = .returned (.int .i64 (-1)) ∧ Below w.heap.size w w' := by
  have hmc : cap ≤ 9223372036854775807 := by have := hcap.2; unfold maxLen at this; omega
  have HC1 := hid H1
  have K0 := hid c0
  have K2 := hid c2
  have K3 := hid c3
  have g2 : ∀ o, (w.alloc o).cell? ⟨b, 2, none⟩ = _ := fun o => (World.cell?_of_block (w := w) (heap_alloc_old w o (World.block_lt_of_cell? w _ c2))).trans c2
  have g3 : ∀ o, (w.alloc o).cell? ⟨b, 3, none⟩ = _ := fun o => (World.cell?_of_block (w := w) (heap_alloc_old w o (World.block_lt_of_cell? w _ c3))).trans c3

  clear H1
  go_enter Try.func51, Try.ntmps51
  go_wp2_with (go_at_call 51; refine (HC1.out _ ((Kept.refl w).alloc (Nat.le_refl _) _) (by simp)).mono ?_; rintro e w1 ⟨rfl, hb1⟩; have hz1 := hb1.size; have kb1 := hid (((Kept.refl w).alloc (Nat.le_refl _) (.cells #[.string ByteArray.empty, .slice (some ⟨b, 0, none⟩) 2 cap] 56)).below hb1 (by simp)); have e1 := cells_of_pair (block_below (heap_new w (.cells #[.string ByteArray.empty, .slice (some ⟨b, 0, none⟩) 2 cap] 56) w.heap.size rfl) hb1 (by simp)); have d0 := kb1.out.cell K0.out; have d2 := kb1.out.cell K2.out; have d3 := kb1.out.cell K3.out)
  go_ret
  exact ⟨rfl, (((Below.refl _ _).alloc (by simp) _).trans ((hb1.mono (by simp))))⟩

set_option maxRecDepth 100000 in
set_option maxHeartbeats 2000000 in
theorem l1Count_u {w : World} {b cap : Nat} {x : ByteArray} {a1 : ByteArray} {p1 : Option Addr} {n1 m1 : Nat} {z1 : Int} (hcap : 2 ≤ cap ∧ cap ≤ maxLen) (c0 : w.cell? ⟨b, 0, none⟩ = some (.string x)) (c2 : w.cell? ⟨b, 2, none⟩ = some (.string a1)) (c3 : w.cell? ⟨b, 3, none⟩ = some (.slice p1 n1 m1)) (H1 : ∀ W, Kept w W → w.heap.size ≤ W.heap.size → Calls Try.prog 51 #[.agg #[.string a1, .slice p1 n1 m1]] W fun e w' => e = .returned (.int .i64 z1) ∧ Below W.heap.size W w') (hz : 0 ≤ z1) (hhi : z1 ≤ 5000) (hx : x.toList = [117]) :
    Calls Try.prog 51 #[.agg #[.string ByteArray.empty, .slice (some ⟨b, 0, none⟩) 2 cap]] w fun e w' => e = .returned (.int .i64 z1) ∧ Below w.heap.size w w' := by
  have hmc : cap ≤ 9223372036854775807 := by have := hcap.2; unfold maxLen at this; omega
  have HC1 := hid H1
  have K0 := hid c0
  have K2 := hid c2
  have K3 := hid c3
  have g2 : ∀ o, (w.alloc o).cell? ⟨b, 2, none⟩ = _ := fun o => (World.cell?_of_block (w := w) (heap_alloc_old w o (World.block_lt_of_cell? w _ c2))).trans c2
  have g3 : ∀ o, (w.alloc o).cell? ⟨b, 3, none⟩ = _ := fun o => (World.cell?_of_block (w := w) (heap_alloc_old w o (World.block_lt_of_cell? w _ c3))).trans c3
  have t42 : (x.toList == [42]) = false := by rw [hx]; rfl
  have t38 : (x.toList == [38]) = false := by rw [hx]; rfl
  have t102 : (x.toList == [102]) = false := by rw [hx]; rfl
  have t62 : (x.toList == [62]) = false := by rw [hx]; rfl
  clear hx
  clear H1
  go_enter Try.func51, Try.ntmps51
  go_wp2_with (go_at_call 51; refine (HC1.out _ ((Kept.refl w).alloc (Nat.le_refl _) _) (by simp)).mono ?_; rintro e w1 ⟨rfl, hb1⟩; have hz1 := hb1.size; have kb1 := hid (((Kept.refl w).alloc (Nat.le_refl _) (.cells #[.string ByteArray.empty, .slice (some ⟨b, 0, none⟩) 2 cap] 56)).below hb1 (by simp)); have e1 := cells_of_pair (block_below (heap_new w (.cells #[.string ByteArray.empty, .slice (some ⟨b, 0, none⟩) 2 cap] 56) w.heap.size rfl) hb1 (by simp)); have d0 := kb1.out.cell K0.out; have d2 := kb1.out.cell K2.out; have d3 := kb1.out.cell K3.out)
  go_ret
  exact ⟨rfl, (((Below.refl _ _).alloc (by simp) _).trans ((hb1.mono (by simp))))⟩

set_option maxRecDepth 100000 in
set_option maxHeartbeats 2000000 in
theorem l1Count_f {w : World} {b cap : Nat} {x : ByteArray} {a1 : ByteArray} {p1 : Option Addr} {n1 m1 : Nat} {z1 : Int} (hcap : 2 ≤ cap ∧ cap ≤ maxLen) (c0 : w.cell? ⟨b, 0, none⟩ = some (.string x)) (c2 : w.cell? ⟨b, 2, none⟩ = some (.string a1)) (c3 : w.cell? ⟨b, 3, none⟩ = some (.slice p1 n1 m1)) (H1 : ∀ W, Kept w W → w.heap.size ≤ W.heap.size → Calls Try.prog 51 #[.agg #[.string a1, .slice p1 n1 m1]] W fun e w' => e = .returned (.int .i64 z1) ∧ Below W.heap.size W w') (hz : 0 ≤ z1) (hhi : z1 ≤ 5000) (hx : x.toList = [102]) (hP : (2 * z1 + 1) * (2 * z1 + 1) ≤ 5000) :
    Calls Try.prog 51 #[.agg #[.string ByteArray.empty, .slice (some ⟨b, 0, none⟩) 2 cap]] w fun e w' => e = .returned (.int .i64 ((2 * z1 + 1) * (2 * z1 + 1))) ∧ Below w.heap.size w w' := by
  have hmc : cap ≤ 9223372036854775807 := by have := hcap.2; unfold maxLen at this; omega
  have HC1 := hid H1
  have K0 := hid c0
  have K2 := hid c2
  have K3 := hid c3
  have g2 : ∀ o, (w.alloc o).cell? ⟨b, 2, none⟩ = _ := fun o => (World.cell?_of_block (w := w) (heap_alloc_old w o (World.block_lt_of_cell? w _ c2))).trans c2
  have g3 : ∀ o, (w.alloc o).cell? ⟨b, 3, none⟩ = _ := fun o => (World.cell?_of_block (w := w) (heap_alloc_old w o (World.block_lt_of_cell? w _ c3))).trans c3
  have t42 : (x.toList == [42]) = false := by rw [hx]; rfl
  have t38 : (x.toList == [38]) = false := by rw [hx]; rfl
  have t102 : (x.toList == [102]) = true := by rw [hx]; rfl
  have t62 : (x.toList == [62]) = false := by rw [hx]; rfl
  clear hx
  have hb0 : 0 ≤ (2 * z1 + 1) * (2 * z1 + 1) := Int.mul_nonneg (by omega) (by omega)
  have hb9 : (2 * z1 + 1) * (2 * z1 + 1) ≤ 10001 * 10001 := Int.mul_le_mul (by omega) (by omega) (by omega) (by omega)
  clear H1
  go_enter Try.func51, Try.ntmps51
  go_wp2_with (go_at_call 51; refine (HC1.out _ ((Kept.refl w).alloc (Nat.le_refl _) _) (by simp)).mono ?_; rintro e w1 ⟨rfl, hb1⟩; have hz1 := hb1.size; have kb1 := hid (((Kept.refl w).alloc (Nat.le_refl _) (.cells #[.string ByteArray.empty, .slice (some ⟨b, 0, none⟩) 2 cap] 56)).below hb1 (by simp)); have e1 := cells_of_pair (block_below (heap_new w (.cells #[.string ByteArray.empty, .slice (some ⟨b, 0, none⟩) 2 cap] 56) w.heap.size rfl) hb1 (by simp)); have d0 := kb1.out.cell K0.out; have d2 := kb1.out.cell K2.out; have d3 := kb1.out.cell K3.out)
  go_ret
  exact ⟨rfl, (((Below.refl _ _).alloc (by simp) _).trans ((hb1.mono (by simp))))⟩

set_option maxRecDepth 100000 in
set_option maxHeartbeats 2000000 in
theorem l1Count_f_no {w : World} {b cap : Nat} {x : ByteArray} {a1 : ByteArray} {p1 : Option Addr} {n1 m1 : Nat} {z1 : Int} (hcap : 2 ≤ cap ∧ cap ≤ maxLen) (c0 : w.cell? ⟨b, 0, none⟩ = some (.string x)) (c2 : w.cell? ⟨b, 2, none⟩ = some (.string a1)) (c3 : w.cell? ⟨b, 3, none⟩ = some (.slice p1 n1 m1)) (H1 : ∀ W, Kept w W → w.heap.size ≤ W.heap.size → Calls Try.prog 51 #[.agg #[.string a1, .slice p1 n1 m1]] W fun e w' => e = .returned (.int .i64 z1) ∧ Below W.heap.size W w') (hz : 0 ≤ z1) (hhi : z1 ≤ 5000) (hx : x.toList = [102]) (hP : 5000 < (2 * z1 + 1) * (2 * z1 + 1)) :
    Calls Try.prog 51 #[.agg #[.string ByteArray.empty, .slice (some ⟨b, 0, none⟩) 2 cap]] w fun e w' => e = .returned (.int .i64 (-1)) ∧ Below w.heap.size w w' := by
  have hmc : cap ≤ 9223372036854775807 := by have := hcap.2; unfold maxLen at this; omega
  have HC1 := hid H1
  have K0 := hid c0
  have K2 := hid c2
  have K3 := hid c3
  have g2 : ∀ o, (w.alloc o).cell? ⟨b, 2, none⟩ = _ := fun o => (World.cell?_of_block (w := w) (heap_alloc_old w o (World.block_lt_of_cell? w _ c2))).trans c2
  have g3 : ∀ o, (w.alloc o).cell? ⟨b, 3, none⟩ = _ := fun o => (World.cell?_of_block (w := w) (heap_alloc_old w o (World.block_lt_of_cell? w _ c3))).trans c3
  have t42 : (x.toList == [42]) = false := by rw [hx]; rfl
  have t38 : (x.toList == [38]) = false := by rw [hx]; rfl
  have t102 : (x.toList == [102]) = true := by rw [hx]; rfl
  have t62 : (x.toList == [62]) = false := by rw [hx]; rfl
  clear hx
  have hb0 : 0 ≤ (2 * z1 + 1) * (2 * z1 + 1) := Int.mul_nonneg (by omega) (by omega)
  have hb9 : (2 * z1 + 1) * (2 * z1 + 1) ≤ 10001 * 10001 := Int.mul_le_mul (by omega) (by omega) (by omega) (by omega)
  clear H1
  go_enter Try.func51, Try.ntmps51
  go_wp2_with (go_at_call 51; refine (HC1.out _ ((Kept.refl w).alloc (Nat.le_refl _) _) (by simp)).mono ?_; rintro e w1 ⟨rfl, hb1⟩; have hz1 := hb1.size; have kb1 := hid (((Kept.refl w).alloc (Nat.le_refl _) (.cells #[.string ByteArray.empty, .slice (some ⟨b, 0, none⟩) 2 cap] 56)).below hb1 (by simp)); have e1 := cells_of_pair (block_below (heap_new w (.cells #[.string ByteArray.empty, .slice (some ⟨b, 0, none⟩) 2 cap] 56) w.heap.size rfl) hb1 (by simp)); have d0 := kb1.out.cell K0.out; have d2 := kb1.out.cell K2.out; have d3 := kb1.out.cell K3.out)
  go_ret
  exact ⟨rfl, (((Below.refl _ _).alloc (by simp) _).trans ((hb1.mono (by simp))))⟩

set_option maxRecDepth 100000 in
set_option maxHeartbeats 2000000 in
theorem l1Count_neg2a {w : World} {b cap : Nat} {x : ByteArray} {a1 : ByteArray} {p1 : Option Addr} {n1 m1 : Nat} {z1 : Int} {a2 : ByteArray} {p2 : Option Addr} {n2 m2 : Nat} {z2 : Int} (hcap : 3 ≤ cap ∧ cap ≤ maxLen) (c0 : w.cell? ⟨b, 0, none⟩ = some (.string x)) (c2 : w.cell? ⟨b, 2, none⟩ = some (.string a1)) (c3 : w.cell? ⟨b, 3, none⟩ = some (.slice p1 n1 m1)) (c4 : w.cell? ⟨b, 4, none⟩ = some (.string a2)) (c5 : w.cell? ⟨b, 5, none⟩ = some (.slice p2 n2 m2)) (H1 : ∀ W, Kept w W → w.heap.size ≤ W.heap.size → Calls Try.prog 51 #[.agg #[.string a1, .slice p1 n1 m1]] W fun e w' => e = .returned (.int .i64 z1) ∧ Below W.heap.size W w') (H2 : ∀ W, Kept w W → w.heap.size ≤ W.heap.size → Calls Try.prog 51 #[.agg #[.string a2, .slice p2 n2 m2]] W fun e w' => e = .returned (.int .i64 z2) ∧ Below W.heap.size W w') (hz : z1 < 0) :
    Calls Try.prog 51 #[.agg #[.string ByteArray.empty, .slice (some ⟨b, 0, none⟩) 3 cap]] w fun e w' => e = .returned (.int .i64 (-1)) ∧ Below w.heap.size w w' := by
  have hmc : cap ≤ 9223372036854775807 := by have := hcap.2; unfold maxLen at this; omega
  have HC1 := hid H1
  have HC2 := hid H2
  have K0 := hid c0
  have K2 := hid c2
  have K3 := hid c3
  have K4 := hid c4
  have K5 := hid c5
  have g2 : ∀ o, (w.alloc o).cell? ⟨b, 2, none⟩ = _ := fun o => (World.cell?_of_block (w := w) (heap_alloc_old w o (World.block_lt_of_cell? w _ c2))).trans c2
  have g3 : ∀ o, (w.alloc o).cell? ⟨b, 3, none⟩ = _ := fun o => (World.cell?_of_block (w := w) (heap_alloc_old w o (World.block_lt_of_cell? w _ c3))).trans c3

  clear H1 H2
  go_enter Try.func51, Try.ntmps51
  go_wp2_with (first | (go_at_call 51; have _ := kb1; refine (HC2.out _ kb1.out (by simp at hz1; omega)).mono ?_; rintro e w2 ⟨rfl, hb2⟩; have hz2 := hb2.size; have kb2 := hid ((kb1.out).below hb2 (by simp at hz1; omega)); have e2 := cells_of_pair (block_below (block_below (heap_new w (.cells #[.string ByteArray.empty, .slice (some ⟨b, 0, none⟩) 3 cap] 56) w.heap.size rfl) hb1 (by simp)) hb2 (by simp at hz1; omega)); have f0 := kb2.out.cell K0.out) | (go_at_call 51; refine (HC1.out _ ((Kept.refl w).alloc (Nat.le_refl _) _) (by simp)).mono ?_; rintro e w1 ⟨rfl, hb1⟩; have hz1 := hb1.size; have kb1 := hid (((Kept.refl w).alloc (Nat.le_refl _) (.cells #[.string ByteArray.empty, .slice (some ⟨b, 0, none⟩) 3 cap] 56)).below hb1 (by simp)); have e1 := cells_of_pair (block_below (heap_new w (.cells #[.string ByteArray.empty, .slice (some ⟨b, 0, none⟩) 3 cap] 56) w.heap.size rfl) hb1 (by simp)); have d0 := kb1.out.cell K0.out; have d2 := kb1.out.cell K2.out; have d3 := kb1.out.cell K3.out; have d4 := kb1.out.cell K4.out; have d5 := kb1.out.cell K5.out))
  go_ret
  exact ⟨rfl, (((Below.refl _ _).alloc (by simp) _).trans ((hb1.mono (by simp)).trans (hb2.mono (by simp at hz1; omega))))⟩

set_option maxRecDepth 100000 in
set_option maxHeartbeats 2000000 in
theorem l1Count_neg2b {w : World} {b cap : Nat} {x : ByteArray} {a1 : ByteArray} {p1 : Option Addr} {n1 m1 : Nat} {z1 : Int} {a2 : ByteArray} {p2 : Option Addr} {n2 m2 : Nat} {z2 : Int} (hcap : 3 ≤ cap ∧ cap ≤ maxLen) (c0 : w.cell? ⟨b, 0, none⟩ = some (.string x)) (c2 : w.cell? ⟨b, 2, none⟩ = some (.string a1)) (c3 : w.cell? ⟨b, 3, none⟩ = some (.slice p1 n1 m1)) (c4 : w.cell? ⟨b, 4, none⟩ = some (.string a2)) (c5 : w.cell? ⟨b, 5, none⟩ = some (.slice p2 n2 m2)) (H1 : ∀ W, Kept w W → w.heap.size ≤ W.heap.size → Calls Try.prog 51 #[.agg #[.string a1, .slice p1 n1 m1]] W fun e w' => e = .returned (.int .i64 z1) ∧ Below W.heap.size W w') (H2 : ∀ W, Kept w W → w.heap.size ≤ W.heap.size → Calls Try.prog 51 #[.agg #[.string a2, .slice p2 n2 m2]] W fun e w' => e = .returned (.int .i64 z2) ∧ Below W.heap.size W w') (hz : 0 ≤ z1) (hz2 : z2 < 0) :
    Calls Try.prog 51 #[.agg #[.string ByteArray.empty, .slice (some ⟨b, 0, none⟩) 3 cap]] w fun e w' => e = .returned (.int .i64 (-1)) ∧ Below w.heap.size w w' := by
  have hmc : cap ≤ 9223372036854775807 := by have := hcap.2; unfold maxLen at this; omega
  have HC1 := hid H1
  have HC2 := hid H2
  have K0 := hid c0
  have K2 := hid c2
  have K3 := hid c3
  have K4 := hid c4
  have K5 := hid c5
  have g2 : ∀ o, (w.alloc o).cell? ⟨b, 2, none⟩ = _ := fun o => (World.cell?_of_block (w := w) (heap_alloc_old w o (World.block_lt_of_cell? w _ c2))).trans c2
  have g3 : ∀ o, (w.alloc o).cell? ⟨b, 3, none⟩ = _ := fun o => (World.cell?_of_block (w := w) (heap_alloc_old w o (World.block_lt_of_cell? w _ c3))).trans c3

  clear H1 H2
  go_enter Try.func51, Try.ntmps51
  go_wp2_with (first | (go_at_call 51; have _ := kb1; refine (HC2.out _ kb1.out (by simp at hz1; omega)).mono ?_; rintro e w2 ⟨rfl, hb2⟩; have hz2 := hb2.size; have kb2 := hid ((kb1.out).below hb2 (by simp at hz1; omega)); have e2 := cells_of_pair (block_below (block_below (heap_new w (.cells #[.string ByteArray.empty, .slice (some ⟨b, 0, none⟩) 3 cap] 56) w.heap.size rfl) hb1 (by simp)) hb2 (by simp at hz1; omega)); have f0 := kb2.out.cell K0.out) | (go_at_call 51; refine (HC1.out _ ((Kept.refl w).alloc (Nat.le_refl _) _) (by simp)).mono ?_; rintro e w1 ⟨rfl, hb1⟩; have hz1 := hb1.size; have kb1 := hid (((Kept.refl w).alloc (Nat.le_refl _) (.cells #[.string ByteArray.empty, .slice (some ⟨b, 0, none⟩) 3 cap] 56)).below hb1 (by simp)); have e1 := cells_of_pair (block_below (heap_new w (.cells #[.string ByteArray.empty, .slice (some ⟨b, 0, none⟩) 3 cap] 56) w.heap.size rfl) hb1 (by simp)); have d0 := kb1.out.cell K0.out; have d2 := kb1.out.cell K2.out; have d3 := kb1.out.cell K3.out; have d4 := kb1.out.cell K4.out; have d5 := kb1.out.cell K5.out))
  go_ret
  exact ⟨rfl, (((Below.refl _ _).alloc (by simp) _).trans ((hb1.mono (by simp)).trans (hb2.mono (by simp at hz1; omega))))⟩

set_option maxRecDepth 100000 in
set_option maxHeartbeats 2000000 in
theorem l1Count_pair {w : World} {b cap : Nat} {x : ByteArray} {a1 : ByteArray} {p1 : Option Addr} {n1 m1 : Nat} {z1 : Int} {a2 : ByteArray} {p2 : Option Addr} {n2 m2 : Nat} {z2 : Int} (hcap : 3 ≤ cap ∧ cap ≤ maxLen) (c0 : w.cell? ⟨b, 0, none⟩ = some (.string x)) (c2 : w.cell? ⟨b, 2, none⟩ = some (.string a1)) (c3 : w.cell? ⟨b, 3, none⟩ = some (.slice p1 n1 m1)) (c4 : w.cell? ⟨b, 4, none⟩ = some (.string a2)) (c5 : w.cell? ⟨b, 5, none⟩ = some (.slice p2 n2 m2)) (H1 : ∀ W, Kept w W → w.heap.size ≤ W.heap.size → Calls Try.prog 51 #[.agg #[.string a1, .slice p1 n1 m1]] W fun e w' => e = .returned (.int .i64 z1) ∧ Below W.heap.size W w') (H2 : ∀ W, Kept w W → w.heap.size ≤ W.heap.size → Calls Try.prog 51 #[.agg #[.string a2, .slice p2 n2 m2]] W fun e w' => e = .returned (.int .i64 z2) ∧ Below W.heap.size W w') (hz : 0 ≤ z1) (hhi : z1 ≤ 5000) (hz2 : 0 ≤ z2) (hhi2 : z2 ≤ 5000) (hx : x.toList = [42]) (hP : z1 * z2 ≤ 5000) :
    Calls Try.prog 51 #[.agg #[.string ByteArray.empty, .slice (some ⟨b, 0, none⟩) 3 cap]] w fun e w' => e = .returned (.int .i64 (z1 * z2)) ∧ Below w.heap.size w w' := by
  have hmc : cap ≤ 9223372036854775807 := by have := hcap.2; unfold maxLen at this; omega
  have HC1 := hid H1
  have HC2 := hid H2
  have K0 := hid c0
  have K2 := hid c2
  have K3 := hid c3
  have K4 := hid c4
  have K5 := hid c5
  have g2 : ∀ o, (w.alloc o).cell? ⟨b, 2, none⟩ = _ := fun o => (World.cell?_of_block (w := w) (heap_alloc_old w o (World.block_lt_of_cell? w _ c2))).trans c2
  have g3 : ∀ o, (w.alloc o).cell? ⟨b, 3, none⟩ = _ := fun o => (World.cell?_of_block (w := w) (heap_alloc_old w o (World.block_lt_of_cell? w _ c3))).trans c3
  have t42 : (x.toList == [42]) = true := by rw [hx]; rfl
  have t38 : (x.toList == [38]) = false := by rw [hx]; rfl
  have t102 : (x.toList == [102]) = false := by rw [hx]; rfl
  have t62 : (x.toList == [62]) = false := by rw [hx]; rfl
  clear hx
  have hb0 : 0 ≤ z1 * z2 := Int.mul_nonneg (by omega) (by omega)
  have hb9 : z1 * z2 ≤ 5000 * 5000 := Int.mul_le_mul (by omega) (by omega) (by omega) (by omega)
  clear H1 H2
  go_enter Try.func51, Try.ntmps51
  go_wp2_with (first | (go_at_call 51; have _ := kb1; refine (HC2.out _ kb1.out (by simp at hz1; omega)).mono ?_; rintro e w2 ⟨rfl, hb2⟩; have hz2 := hb2.size; have kb2 := hid ((kb1.out).below hb2 (by simp at hz1; omega)); have e2 := cells_of_pair (block_below (block_below (heap_new w (.cells #[.string ByteArray.empty, .slice (some ⟨b, 0, none⟩) 3 cap] 56) w.heap.size rfl) hb1 (by simp)) hb2 (by simp at hz1; omega)); have f0 := kb2.out.cell K0.out) | (go_at_call 51; refine (HC1.out _ ((Kept.refl w).alloc (Nat.le_refl _) _) (by simp)).mono ?_; rintro e w1 ⟨rfl, hb1⟩; have hz1 := hb1.size; have kb1 := hid (((Kept.refl w).alloc (Nat.le_refl _) (.cells #[.string ByteArray.empty, .slice (some ⟨b, 0, none⟩) 3 cap] 56)).below hb1 (by simp)); have e1 := cells_of_pair (block_below (heap_new w (.cells #[.string ByteArray.empty, .slice (some ⟨b, 0, none⟩) 3 cap] 56) w.heap.size rfl) hb1 (by simp)); have d0 := kb1.out.cell K0.out; have d2 := kb1.out.cell K2.out; have d3 := kb1.out.cell K3.out; have d4 := kb1.out.cell K4.out; have d5 := kb1.out.cell K5.out))
  go_ret
  exact ⟨rfl, (((Below.refl _ _).alloc (by simp) _).trans ((hb1.mono (by simp)).trans (hb2.mono (by simp at hz1; omega))))⟩

set_option maxRecDepth 100000 in
set_option maxHeartbeats 2000000 in
theorem l1Count_pair_no {w : World} {b cap : Nat} {x : ByteArray} {a1 : ByteArray} {p1 : Option Addr} {n1 m1 : Nat} {z1 : Int} {a2 : ByteArray} {p2 : Option Addr} {n2 m2 : Nat} {z2 : Int} (hcap : 3 ≤ cap ∧ cap ≤ maxLen) (c0 : w.cell? ⟨b, 0, none⟩ = some (.string x)) (c2 : w.cell? ⟨b, 2, none⟩ = some (.string a1)) (c3 : w.cell? ⟨b, 3, none⟩ = some (.slice p1 n1 m1)) (c4 : w.cell? ⟨b, 4, none⟩ = some (.string a2)) (c5 : w.cell? ⟨b, 5, none⟩ = some (.slice p2 n2 m2)) (H1 : ∀ W, Kept w W → w.heap.size ≤ W.heap.size → Calls Try.prog 51 #[.agg #[.string a1, .slice p1 n1 m1]] W fun e w' => e = .returned (.int .i64 z1) ∧ Below W.heap.size W w') (H2 : ∀ W, Kept w W → w.heap.size ≤ W.heap.size → Calls Try.prog 51 #[.agg #[.string a2, .slice p2 n2 m2]] W fun e w' => e = .returned (.int .i64 z2) ∧ Below W.heap.size W w') (hz : 0 ≤ z1) (hhi : z1 ≤ 5000) (hz2 : 0 ≤ z2) (hhi2 : z2 ≤ 5000) (hx : x.toList = [42]) (hP : 5000 < z1 * z2) :
    Calls Try.prog 51 #[.agg #[.string ByteArray.empty, .slice (some ⟨b, 0, none⟩) 3 cap]] w fun e w' => e = .returned (.int .i64 (-1)) ∧ Below w.heap.size w w' := by
  have hmc : cap ≤ 9223372036854775807 := by have := hcap.2; unfold maxLen at this; omega
  have HC1 := hid H1
  have HC2 := hid H2
  have K0 := hid c0
  have K2 := hid c2
  have K3 := hid c3
  have K4 := hid c4
  have K5 := hid c5
  have g2 : ∀ o, (w.alloc o).cell? ⟨b, 2, none⟩ = _ := fun o => (World.cell?_of_block (w := w) (heap_alloc_old w o (World.block_lt_of_cell? w _ c2))).trans c2
  have g3 : ∀ o, (w.alloc o).cell? ⟨b, 3, none⟩ = _ := fun o => (World.cell?_of_block (w := w) (heap_alloc_old w o (World.block_lt_of_cell? w _ c3))).trans c3
  have t42 : (x.toList == [42]) = true := by rw [hx]; rfl
  have t38 : (x.toList == [38]) = false := by rw [hx]; rfl
  have t102 : (x.toList == [102]) = false := by rw [hx]; rfl
  have t62 : (x.toList == [62]) = false := by rw [hx]; rfl
  clear hx
  have hb0 : 0 ≤ z1 * z2 := Int.mul_nonneg (by omega) (by omega)
  have hb9 : z1 * z2 ≤ 5000 * 5000 := Int.mul_le_mul (by omega) (by omega) (by omega) (by omega)
  clear H1 H2
  go_enter Try.func51, Try.ntmps51
  go_wp2_with (first | (go_at_call 51; have _ := kb1; refine (HC2.out _ kb1.out (by simp at hz1; omega)).mono ?_; rintro e w2 ⟨rfl, hb2⟩; have hz2 := hb2.size; have kb2 := hid ((kb1.out).below hb2 (by simp at hz1; omega)); have e2 := cells_of_pair (block_below (block_below (heap_new w (.cells #[.string ByteArray.empty, .slice (some ⟨b, 0, none⟩) 3 cap] 56) w.heap.size rfl) hb1 (by simp)) hb2 (by simp at hz1; omega)); have f0 := kb2.out.cell K0.out) | (go_at_call 51; refine (HC1.out _ ((Kept.refl w).alloc (Nat.le_refl _) _) (by simp)).mono ?_; rintro e w1 ⟨rfl, hb1⟩; have hz1 := hb1.size; have kb1 := hid (((Kept.refl w).alloc (Nat.le_refl _) (.cells #[.string ByteArray.empty, .slice (some ⟨b, 0, none⟩) 3 cap] 56)).below hb1 (by simp)); have e1 := cells_of_pair (block_below (heap_new w (.cells #[.string ByteArray.empty, .slice (some ⟨b, 0, none⟩) 3 cap] 56) w.heap.size rfl) hb1 (by simp)); have d0 := kb1.out.cell K0.out; have d2 := kb1.out.cell K2.out; have d3 := kb1.out.cell K3.out; have d4 := kb1.out.cell K4.out; have d5 := kb1.out.cell K5.out))
  go_ret
  exact ⟨rfl, (((Below.refl _ _).alloc (by simp) _).trans ((hb1.mono (by simp)).trans (hb2.mono (by simp at hz1; omega))))⟩

set_option maxRecDepth 100000 in
set_option maxHeartbeats 2000000 in
theorem l1Count_choice {w : World} {b cap : Nat} {x : ByteArray} {a1 : ByteArray} {p1 : Option Addr} {n1 m1 : Nat} {z1 : Int} {a2 : ByteArray} {p2 : Option Addr} {n2 m2 : Nat} {z2 : Int} (hcap : 3 ≤ cap ∧ cap ≤ maxLen) (c0 : w.cell? ⟨b, 0, none⟩ = some (.string x)) (c2 : w.cell? ⟨b, 2, none⟩ = some (.string a1)) (c3 : w.cell? ⟨b, 3, none⟩ = some (.slice p1 n1 m1)) (c4 : w.cell? ⟨b, 4, none⟩ = some (.string a2)) (c5 : w.cell? ⟨b, 5, none⟩ = some (.slice p2 n2 m2)) (H1 : ∀ W, Kept w W → w.heap.size ≤ W.heap.size → Calls Try.prog 51 #[.agg #[.string a1, .slice p1 n1 m1]] W fun e w' => e = .returned (.int .i64 z1) ∧ Below W.heap.size W w') (H2 : ∀ W, Kept w W → w.heap.size ≤ W.heap.size → Calls Try.prog 51 #[.agg #[.string a2, .slice p2 n2 m2]] W fun e w' => e = .returned (.int .i64 z2) ∧ Below W.heap.size W w') (hz : 0 ≤ z1) (hhi : z1 ≤ 5000) (hz2 : 0 ≤ z2) (hhi2 : z2 ≤ 5000) (hx : x.toList = [38]) (hP : z1 * z2 ≤ 5000) :
    Calls Try.prog 51 #[.agg #[.string ByteArray.empty, .slice (some ⟨b, 0, none⟩) 3 cap]] w fun e w' => e = .returned (.int .i64 (z1 * z2)) ∧ Below w.heap.size w w' := by
  have hmc : cap ≤ 9223372036854775807 := by have := hcap.2; unfold maxLen at this; omega
  have HC1 := hid H1
  have HC2 := hid H2
  have K0 := hid c0
  have K2 := hid c2
  have K3 := hid c3
  have K4 := hid c4
  have K5 := hid c5
  have g2 : ∀ o, (w.alloc o).cell? ⟨b, 2, none⟩ = _ := fun o => (World.cell?_of_block (w := w) (heap_alloc_old w o (World.block_lt_of_cell? w _ c2))).trans c2
  have g3 : ∀ o, (w.alloc o).cell? ⟨b, 3, none⟩ = _ := fun o => (World.cell?_of_block (w := w) (heap_alloc_old w o (World.block_lt_of_cell? w _ c3))).trans c3
  have t42 : (x.toList == [42]) = false := by rw [hx]; rfl
  have t38 : (x.toList == [38]) = true := by rw [hx]; rfl
  have t102 : (x.toList == [102]) = false := by rw [hx]; rfl
  have t62 : (x.toList == [62]) = false := by rw [hx]; rfl
  clear hx
  have hb0 : 0 ≤ z1 * z2 := Int.mul_nonneg (by omega) (by omega)
  have hb9 : z1 * z2 ≤ 5000 * 5000 := Int.mul_le_mul (by omega) (by omega) (by omega) (by omega)
  clear H1 H2
  go_enter Try.func51, Try.ntmps51
  go_wp2_with (first | (go_at_call 51; have _ := kb1; refine (HC2.out _ kb1.out (by simp at hz1; omega)).mono ?_; rintro e w2 ⟨rfl, hb2⟩; have hz2 := hb2.size; have kb2 := hid ((kb1.out).below hb2 (by simp at hz1; omega)); have e2 := cells_of_pair (block_below (block_below (heap_new w (.cells #[.string ByteArray.empty, .slice (some ⟨b, 0, none⟩) 3 cap] 56) w.heap.size rfl) hb1 (by simp)) hb2 (by simp at hz1; omega)); have f0 := kb2.out.cell K0.out) | (go_at_call 51; refine (HC1.out _ ((Kept.refl w).alloc (Nat.le_refl _) _) (by simp)).mono ?_; rintro e w1 ⟨rfl, hb1⟩; have hz1 := hb1.size; have kb1 := hid (((Kept.refl w).alloc (Nat.le_refl _) (.cells #[.string ByteArray.empty, .slice (some ⟨b, 0, none⟩) 3 cap] 56)).below hb1 (by simp)); have e1 := cells_of_pair (block_below (heap_new w (.cells #[.string ByteArray.empty, .slice (some ⟨b, 0, none⟩) 3 cap] 56) w.heap.size rfl) hb1 (by simp)); have d0 := kb1.out.cell K0.out; have d2 := kb1.out.cell K2.out; have d3 := kb1.out.cell K3.out; have d4 := kb1.out.cell K4.out; have d5 := kb1.out.cell K5.out))
  go_ret
  exact ⟨rfl, (((Below.refl _ _).alloc (by simp) _).trans ((hb1.mono (by simp)).trans (hb2.mono (by simp at hz1; omega))))⟩

set_option maxRecDepth 100000 in
set_option maxHeartbeats 2000000 in
theorem l1Count_choice_no {w : World} {b cap : Nat} {x : ByteArray} {a1 : ByteArray} {p1 : Option Addr} {n1 m1 : Nat} {z1 : Int} {a2 : ByteArray} {p2 : Option Addr} {n2 m2 : Nat} {z2 : Int} (hcap : 3 ≤ cap ∧ cap ≤ maxLen) (c0 : w.cell? ⟨b, 0, none⟩ = some (.string x)) (c2 : w.cell? ⟨b, 2, none⟩ = some (.string a1)) (c3 : w.cell? ⟨b, 3, none⟩ = some (.slice p1 n1 m1)) (c4 : w.cell? ⟨b, 4, none⟩ = some (.string a2)) (c5 : w.cell? ⟨b, 5, none⟩ = some (.slice p2 n2 m2)) (H1 : ∀ W, Kept w W → w.heap.size ≤ W.heap.size → Calls Try.prog 51 #[.agg #[.string a1, .slice p1 n1 m1]] W fun e w' => e = .returned (.int .i64 z1) ∧ Below W.heap.size W w') (H2 : ∀ W, Kept w W → w.heap.size ≤ W.heap.size → Calls Try.prog 51 #[.agg #[.string a2, .slice p2 n2 m2]] W fun e w' => e = .returned (.int .i64 z2) ∧ Below W.heap.size W w') (hz : 0 ≤ z1) (hhi : z1 ≤ 5000) (hz2 : 0 ≤ z2) (hhi2 : z2 ≤ 5000) (hx : x.toList = [38]) (hP : 5000 < z1 * z2) :
    Calls Try.prog 51 #[.agg #[.string ByteArray.empty, .slice (some ⟨b, 0, none⟩) 3 cap]] w fun e w' => e = .returned (.int .i64 (-1)) ∧ Below w.heap.size w w' := by
  have hmc : cap ≤ 9223372036854775807 := by have := hcap.2; unfold maxLen at this; omega
  have HC1 := hid H1
  have HC2 := hid H2
  have K0 := hid c0
  have K2 := hid c2
  have K3 := hid c3
  have K4 := hid c4
  have K5 := hid c5
  have g2 : ∀ o, (w.alloc o).cell? ⟨b, 2, none⟩ = _ := fun o => (World.cell?_of_block (w := w) (heap_alloc_old w o (World.block_lt_of_cell? w _ c2))).trans c2
  have g3 : ∀ o, (w.alloc o).cell? ⟨b, 3, none⟩ = _ := fun o => (World.cell?_of_block (w := w) (heap_alloc_old w o (World.block_lt_of_cell? w _ c3))).trans c3
  have t42 : (x.toList == [42]) = false := by rw [hx]; rfl
  have t38 : (x.toList == [38]) = true := by rw [hx]; rfl
  have t102 : (x.toList == [102]) = false := by rw [hx]; rfl
  have t62 : (x.toList == [62]) = false := by rw [hx]; rfl
  clear hx
  have hb0 : 0 ≤ z1 * z2 := Int.mul_nonneg (by omega) (by omega)
  have hb9 : z1 * z2 ≤ 5000 * 5000 := Int.mul_le_mul (by omega) (by omega) (by omega) (by omega)
  clear H1 H2
  go_enter Try.func51, Try.ntmps51
  go_wp2_with (first | (go_at_call 51; have _ := kb1; refine (HC2.out _ kb1.out (by simp at hz1; omega)).mono ?_; rintro e w2 ⟨rfl, hb2⟩; have hz2 := hb2.size; have kb2 := hid ((kb1.out).below hb2 (by simp at hz1; omega)); have e2 := cells_of_pair (block_below (block_below (heap_new w (.cells #[.string ByteArray.empty, .slice (some ⟨b, 0, none⟩) 3 cap] 56) w.heap.size rfl) hb1 (by simp)) hb2 (by simp at hz1; omega)); have f0 := kb2.out.cell K0.out) | (go_at_call 51; refine (HC1.out _ ((Kept.refl w).alloc (Nat.le_refl _) _) (by simp)).mono ?_; rintro e w1 ⟨rfl, hb1⟩; have hz1 := hb1.size; have kb1 := hid (((Kept.refl w).alloc (Nat.le_refl _) (.cells #[.string ByteArray.empty, .slice (some ⟨b, 0, none⟩) 3 cap] 56)).below hb1 (by simp)); have e1 := cells_of_pair (block_below (heap_new w (.cells #[.string ByteArray.empty, .slice (some ⟨b, 0, none⟩) 3 cap] 56) w.heap.size rfl) hb1 (by simp)); have d0 := kb1.out.cell K0.out; have d2 := kb1.out.cell K2.out; have d3 := kb1.out.cell K3.out; have d4 := kb1.out.cell K4.out; have d5 := kb1.out.cell K5.out))
  go_ret
  exact ⟨rfl, (((Below.refl _ _).alloc (by simp) _).trans ((hb1.mono (by simp)).trans (hb2.mono (by simp at hz1; omega))))⟩

set_option maxRecDepth 100000 in
set_option maxHeartbeats 2000000 in
theorem l1Count_fn {w : World} {b cap : Nat} {x : ByteArray} {a1 : ByteArray} {p1 : Option Addr} {n1 m1 : Nat} {m k : Nat} {a2 : ByteArray} {p2 : Option Addr} {n2 m2 : Nat} (hcap : 3 ≤ cap ∧ cap ≤ maxLen) (c0 : w.cell? ⟨b, 0, none⟩ = some (.string x)) (c2 : w.cell? ⟨b, 2, none⟩ = some (.string a1)) (c3 : w.cell? ⟨b, 3, none⟩ = some (.slice p1 n1 m1)) (c4 : w.cell? ⟨b, 4, none⟩ = some (.string a2)) (c5 : w.cell? ⟨b, 5, none⟩ = some (.slice p2 n2 m2)) (H1 : ∀ W, Kept w W → w.heap.size ≤ W.heap.size → Calls Try.prog 51 #[.agg #[.string a1, .slice p1 n1 m1]] W fun e w' => e = .returned (.int .i64 (m : Int)) ∧ Below W.heap.size W w') (H2 : ∀ W, Kept w W → w.heap.size ≤ W.heap.size → Calls Try.prog 51 #[.agg #[.string a2, .slice p2 n2 m2]] W fun e w' => e = .returned (.int .i64 (k : Int)) ∧ Below W.heap.size W w') (hk : 1 ≤ k) (hk2 : k ≤ 5000) (hm : m ≤ 5000) (hx : x.toList = [62]) :
    Calls Try.prog 51 #[.agg #[.string ByteArray.empty, .slice (some ⟨b, 0, none⟩) 3 cap]] w fun e w' => e = .returned (.int .i64 (cntV (capped (k ^ m)))) ∧ Below w.heap.size w w' := by
  have hmc : cap ≤ 9223372036854775807 := by have := hcap.2; unfold maxLen at this; omega
  have HC1 := hid H1
  have HC2 := hid H2
  have K0 := hid c0
  have K2 := hid c2
  have K3 := hid c3
  have K4 := hid c4
  have K5 := hid c5
  have g2 : ∀ o, (w.alloc o).cell? ⟨b, 2, none⟩ = _ := fun o => (World.cell?_of_block (w := w) (heap_alloc_old w o (World.block_lt_of_cell? w _ c2))).trans c2
  have g3 : ∀ o, (w.alloc o).cell? ⟨b, 3, none⟩ = _ := fun o => (World.cell?_of_block (w := w) (heap_alloc_old w o (World.block_lt_of_cell? w _ c3))).trans c3
  have t42 : (x.toList == [42]) = false := by rw [hx]; rfl
  have t38 : (x.toList == [38]) = false := by rw [hx]; rfl
  have t102 : (x.toList == [102]) = false := by rw [hx]; rfl
  have t62 : (x.toList == [62]) = true := by rw [hx]; rfl
  clear hx
  clear H1 H2
  go_enter Try.func51, Try.ntmps51
  go_wp2_with (first | (go_at_call 51; have _ := kb1; refine (HC2.out _ kb1.out (by simp at hz1; omega)).mono ?_; rintro e w2 ⟨rfl, hb2⟩; have hz2 := hb2.size; have kb2 := hid ((kb1.out).below hb2 (by simp at hz1; omega)); have e2 := cells_of_pair (block_below (block_below (heap_new w (.cells #[.string ByteArray.empty, .slice (some ⟨b, 0, none⟩) 3 cap] 56) w.heap.size rfl) hb1 (by simp)) hb2 (by simp at hz1; omega)); have f0 := kb2.out.cell K0.out) | (go_at_call 51; refine (HC1.out _ ((Kept.refl w).alloc (Nat.le_refl _) _) (by simp)).mono ?_; rintro e w1 ⟨rfl, hb1⟩; have hz1 := hb1.size; have kb1 := hid (((Kept.refl w).alloc (Nat.le_refl _) (.cells #[.string ByteArray.empty, .slice (some ⟨b, 0, none⟩) 3 cap] 56)).below hb1 (by simp)); have e1 := cells_of_pair (block_below (heap_new w (.cells #[.string ByteArray.empty, .slice (some ⟨b, 0, none⟩) 3 cap] 56) w.heap.size rfl) hb1 (by simp)); have d0 := kb1.out.cell K0.out; have d2 := kb1.out.cell K2.out; have d3 := kb1.out.cell K3.out; have d4 := kb1.out.cell K4.out; have d5 := kb1.out.cell K5.out))
  go_loopw [5, 6] (fun v u wr => ∃ (i o : Nat), i ≤ m ∧ u = .int .i64 (i : Int) ∧ v = .int .i64 (o : Int) ∧ o ≤ 5001 ∧ Hid (o = min 5001 (k ^ i)) ∧ Below w2.heap.size w2 wr) (fun _ u _ => m - (intOf u).toNat)
  case atStart => exact ⟨0, 1, Nat.zero_le _, rfl, rfl, by decide, hid (by simp), Below.refl _ _⟩
  case round =>
    obtain ⟨i, o, hi, rfl, rfl, ho, hop, hbel⟩ := hrel
    by_cases hlt : i < m
    · have hb0 : 0 ≤ (o : Int) * (k : Int) := Int.mul_nonneg (by omega) (by omega)
      have hb9 : (o : Int) * (k : Int) ≤ 5001 * 5000 := Int.mul_le_mul (by omega) (by omega) (by omega) (by omega)
      go_wp2_with fail
      go_roundw
      case rel =>
        exact ⟨i + 1, min 5001 (o * k), by omega, by go_num, by rw [show ((min 5001 (o * k) : Nat) : Int) = min 5001 ((o : Int) * k) by rw [← Int.natCast_mul]; omega], Nat.min_le_left _ _, hid (by rw [hop.out, min_pow k i (by omega)]), hbel⟩
      case measure => simp [intOf]; omega
    · have him : i = m := by omega
      have HI := hid him
      clear him
      have hop2 := hop.out
      rw [HI.out] at hop2
      have HOP := hid hop2
      clear hop2
      by_cases hbig : 5000 < o
      · have HG := hid hbig
        go_wp2_with fail
        go_ret
        refine ⟨ret_int ?_, ((((Below.refl _ _).alloc (by simp) _).trans ((hb1.mono (by simp)).trans (hb2.mono (by simp at hz1; omega))))).trans (hbel.mono (by simp at hz1; omega))⟩
        have := HOP.out
        rw [capped, if_neg (by omega)]; rfl
      · go_wp2_with fail
        go_ret
        refine ⟨ret_int ?_, ((((Below.refl _ _).alloc (by simp) _).trans ((hb1.mono (by simp)).trans (hb2.mono (by simp at hz1; omega))))).trans (hbel.mono (by simp at hz1; omega))⟩
        have := HOP.out
        rw [capped, if_pos (by omega), cntV]
        omega

theorem tyParts_cases {L : List UInt8} {ks : List Ty} {ty : Ty} (h : tyParts L ks = some ty) :
    (∃ a b, L = [42] ∧ ks = [a, b] ∧ ty = .pair a b) ∨ (∃ a b, L = [62] ∧ ks = [a, b] ∧ ty = .fn a b) ∨ (∃ a b, L = [38] ∧ ks = [a, b] ∧ ty = .choice a b) ∨ (∃ a, L = [117] ∧ ks = [a] ∧ ty = .thunk a) ∨ (∃ a, L = [102] ∧ ks = [a] ∧ ty = .ret a) := by
  unfold tyParts at h
  split at h
  · split at h
    · rename_i c; simp at h; subst h; exact .inl ⟨_, _, c.1, rfl, rfl⟩
    · split at h
      · rename_i c; simp at h; subst h; exact .inr (.inl ⟨_, _, c.1, rfl, rfl⟩)
      · split at h
        · rename_i c; simp at h; subst h; exact .inr (.inr (.inl ⟨_, _, c.1, rfl, rfl⟩))
        · simp at h
  · split at h
    · rename_i c; simp at h; subst h; exact .inr (.inr (.inr (.inl ⟨_, c.1, rfl, rfl⟩)))
    · split at h
      · rename_i c; simp at h; subst h; exact .inr (.inr (.inr (.inr ⟨_, c.1, rfl, rfl⟩)))
      · simp at h
  · simp at h
theorem tys_one {qs : List Tree} {a : Ty} (h : Tree.tys qs = some [a]) : ∃ p, qs = [p] ∧ p.ty = some a := by
  have hl := tys_length qs _ h
  match qs, hl with
  | [p], _ =>
    obtain ⟨t, h1, h2⟩ := tys_get [p] _ h 0 p rfl
    simp at h1; subst h1; exact ⟨p, rfl, h2⟩
theorem tys_two {qs : List Tree} {a b : Ty} (h : Tree.tys qs = some [a, b]) : ∃ p q, qs = [p, q] ∧ p.ty = some a ∧ q.ty = some b := by
  have hl := tys_length qs _ h
  match qs, hl with
  | [p, q], _ =>
    obtain ⟨t, h1, h2⟩ := tys_get [p, q] _ h 0 p rfl
    obtain ⟨t', h3, h4⟩ := tys_get [p, q] _ h 1 q rfl
    simp at h1 h3; subst h1; subst h3; exact ⟨p, q, rfl, h2, h4⟩
theorem cntV_lo (o : Option Nat) (h : o = none) : cntV o < 0 := by subst h; decide
theorem cntV_some {o : Option Nat} {n : Nat} (h : o = some n) : cntV o = n := by subst h; rfl
theorem calls_as {f : FuncId} {args : Array Value} {w : World} {v u : Int} (h : v = u) (hc : Calls Try.prog f args w fun e w' => e = .returned (.int .i64 v) ∧ Below w.heap.size w w') : Calls Try.prog f args w fun e w' => e = .returned (.int .i64 u) ∧ Below w.heap.size w w' := h ▸ hc

set_option maxRecDepth 100000 in
set_option maxHeartbeats 2000000 in
theorem l1Count_any {w0 : World} {S : Nat → Prop} {t : Tree} {h : Hd} (ht : TIn w0 S t h) : ∀ ty, t.ty = some ty → ∀ w, Kept w0 w → w0.heap.size ≤ w.heap.size →
    Calls Try.prog 51 #[.agg #[.string h.a, .slice h.p h.l h.c]] w fun e w' => e = .returned (.int .i64 (cntV ty.cnt)) ∧ Below w.heap.size w w' := by
  induction ht with
  | atom s hne hm =>
    intro ty hty w _ _
    have he := isEmpty_not s hne
    have hb : ty = .bit := by
      rw [Tree.ty] at hty; split at hty
      · simp at hty; exact hty.symm
      · simp at hty
    subst hb
    clear hty
    go_enter Try.func51, Try.ntmps51
    go_wp2
    go_ret
    exact ⟨ret_int rfl, (Below.refl _ _).alloc (by simp) _⟩
  | node ps b cap A hp hl hc hS hA hB hps ih =>
    intro ty hty w hk hw
    obtain ⟨q, qs, rfl⟩ : ∃ q qs, ps = q :: qs := by cases ps with | nil => simp at hp | cons q qs => exact ⟨q, qs, rfl⟩
    have hq := (hps 0 q rfl).text
    rw [Tree.ty] at hty
    cases hks : Tree.tys qs with
    | none => rw [hks] at hty; simp at hty
    | some ks =>
      rw [hks] at hty; simp only at hty
      rw [← hq] at hty
      have c0 : w.cell? ⟨b, 0, none⟩ = some (.string (A 0).a) := by have := hk.cell (hA 0 hp); simpa using this
      rcases tyParts_cases hty with ⟨a, d, hL, rfl, rfl⟩ | ⟨a, d, hL, rfl, rfl⟩ | ⟨a, d, hL, rfl, rfl⟩ | ⟨a, hL, rfl, rfl⟩ | ⟨a, hL, rfl, rfl⟩
      · obtain ⟨p, r, rfl, hpt, hrt⟩ := tys_two hks
        have c2 := hk.cell (hA 1 (by simp)); have c3 := hk.cell (hB 1 (by simp)); have c4 := hk.cell (hA 2 (by simp)); have c5 := hk.cell (hB 2 (by simp))
        have H1 := fun W (hkW : Kept w W) (hs : w.heap.size ≤ W.heap.size) => ih 1 p rfl a hpt W (hk.trans hkW hw) (by omega)
        have H2 := fun W (hkW : Kept w W) (hs : w.heap.size ≤ W.heap.size) => ih 2 r rfl d hrt W (hk.trans hkW hw) (by omega)
        cases ha : a.cnt with
        | none => exact calls_as (by simp [Ty.cnt, ha, cntV]) (l1Count_neg2a ⟨hl, hc⟩ c0 c2 c3 c4 c5 H1 H2 (cntV_lo _ ha))
        | some m =>
          have r1 := cnt_range a m ha
          have v1 := cntV_some ha
          cases hd : d.cnt with
          | none => exact calls_as (by simp [Ty.cnt, ha, hd, cntV]) (l1Count_neg2b ⟨hl, hc⟩ c0 c2 c3 c4 c5 H1 H2 (by rw [v1]; omega) (cntV_lo _ hd))
          | some k =>
            have r2 := cnt_range d k hd
            have v2 := cntV_some hd
            rw [v1] at H1
            rw [v2] at H2
            by_cases hb : m * k ≤ 5000
            · exact calls_as (by simp [Ty.cnt, ha, hd, capped, hb, cntV]) (l1Count_pair ⟨hl, hc⟩ c0 c2 c3 c4 c5 H1 H2 (by omega) (by omega) (by omega) (by omega) hL (by rw [← Int.natCast_mul]; omega))
            · exact calls_as (by simp [Ty.cnt, ha, hd, capped, hb, cntV]) (l1Count_pair_no ⟨hl, hc⟩ c0 c2 c3 c4 c5 H1 H2 (by omega) (by omega) (by omega) (by omega) hL (by rw [← Int.natCast_mul]; omega))
      · obtain ⟨p, r, rfl, hpt, hrt⟩ := tys_two hks
        have c2 := hk.cell (hA 1 (by simp)); have c3 := hk.cell (hB 1 (by simp)); have c4 := hk.cell (hA 2 (by simp)); have c5 := hk.cell (hB 2 (by simp))
        have H1 := fun W (hkW : Kept w W) (hs : w.heap.size ≤ W.heap.size) => ih 1 p rfl a hpt W (hk.trans hkW hw) (by omega)
        have H2 := fun W (hkW : Kept w W) (hs : w.heap.size ≤ W.heap.size) => ih 2 r rfl d hrt W (hk.trans hkW hw) (by omega)
        cases ha : a.cnt with
        | none => exact calls_as (by simp [Ty.cnt, ha, cntV]) (l1Count_neg2a ⟨hl, hc⟩ c0 c2 c3 c4 c5 H1 H2 (cntV_lo _ ha))
        | some m =>
          have r1 := cnt_range a m ha
          have v1 := cntV_some ha
          cases hd : d.cnt with
          | none => exact calls_as (by simp [Ty.cnt, ha, hd, cntV]) (l1Count_neg2b ⟨hl, hc⟩ c0 c2 c3 c4 c5 H1 H2 (by rw [v1]; omega) (cntV_lo _ hd))
          | some k =>
            have r2 := cnt_range d k hd
            have v2 := cntV_some hd
            rw [v1] at H1
            rw [v2] at H2
            exact calls_as (by simp [Ty.cnt, ha, hd]) (l1Count_fn ⟨hl, hc⟩ c0 c2 c3 c4 c5 H1 H2 (by omega) (by omega) (by omega) hL)
      · obtain ⟨p, r, rfl, hpt, hrt⟩ := tys_two hks
        have c2 := hk.cell (hA 1 (by simp)); have c3 := hk.cell (hB 1 (by simp)); have c4 := hk.cell (hA 2 (by simp)); have c5 := hk.cell (hB 2 (by simp))
        have H1 := fun W (hkW : Kept w W) (hs : w.heap.size ≤ W.heap.size) => ih 1 p rfl a hpt W (hk.trans hkW hw) (by omega)
        have H2 := fun W (hkW : Kept w W) (hs : w.heap.size ≤ W.heap.size) => ih 2 r rfl d hrt W (hk.trans hkW hw) (by omega)
        cases ha : a.cnt with
        | none => exact calls_as (by simp [Ty.cnt, ha, cntV]) (l1Count_neg2a ⟨hl, hc⟩ c0 c2 c3 c4 c5 H1 H2 (cntV_lo _ ha))
        | some m =>
          have r1 := cnt_range a m ha
          have v1 := cntV_some ha
          cases hd : d.cnt with
          | none => exact calls_as (by simp [Ty.cnt, ha, hd, cntV]) (l1Count_neg2b ⟨hl, hc⟩ c0 c2 c3 c4 c5 H1 H2 (by rw [v1]; omega) (cntV_lo _ hd))
          | some k =>
            have r2 := cnt_range d k hd
            have v2 := cntV_some hd
            rw [v1] at H1
            rw [v2] at H2
            by_cases hb : m * k ≤ 5000
            · exact calls_as (by simp [Ty.cnt, ha, hd, capped, hb, cntV]) (l1Count_choice ⟨hl, hc⟩ c0 c2 c3 c4 c5 H1 H2 (by omega) (by omega) (by omega) (by omega) hL (by rw [← Int.natCast_mul]; omega))
            · exact calls_as (by simp [Ty.cnt, ha, hd, capped, hb, cntV]) (l1Count_choice_no ⟨hl, hc⟩ c0 c2 c3 c4 c5 H1 H2 (by omega) (by omega) (by omega) (by omega) hL (by rw [← Int.natCast_mul]; omega))
      · obtain ⟨p, rfl, hpt⟩ := tys_one hks
        have c2 := hk.cell (hA 1 (by simp)); have c3 := hk.cell (hB 1 (by simp))
        have H1 := fun W (hkW : Kept w W) (hs : w.heap.size ≤ W.heap.size) => ih 1 p rfl a hpt W (hk.trans hkW hw) (by omega)
        cases ha : a.cnt with
        | none => exact calls_as (by simp [Ty.cnt, ha, cntV]) (l1Count_neg1 ⟨hl, hc⟩ c0 c2 c3 H1 (cntV_lo _ ha))
        | some m =>
          have r1 := cnt_range a m ha
          have v1 := cntV_some ha
          rw [v1] at H1
          exact calls_as (by simp [Ty.cnt, ha, cntV]) (l1Count_u ⟨hl, hc⟩ c0 c2 c3 H1 (by omega) (by omega) hL)
      · obtain ⟨p, rfl, hpt⟩ := tys_one hks
        have c2 := hk.cell (hA 1 (by simp)); have c3 := hk.cell (hB 1 (by simp))
        have H1 := fun W (hkW : Kept w W) (hs : w.heap.size ≤ W.heap.size) => ih 1 p rfl a hpt W (hk.trans hkW hw) (by omega)
        cases ha : a.cnt with
        | none => exact calls_as (by simp [Ty.cnt, ha, cntV]) (l1Count_neg1 ⟨hl, hc⟩ c0 c2 c3 H1 (cntV_lo _ ha))
        | some m =>
          have r1 := cnt_range a m ha
          have v1 := cntV_some ha
          rw [v1] at H1
          have hz : (2 * (m : Int) + 1) * (2 * (m : Int) + 1) = (((2 * m + 1) * (2 * m + 1) : Nat) : Int) := by simp
          by_cases hb : (2 * m + 1) * (2 * m + 1) ≤ 5000
          · exact calls_as (by simp [Ty.cnt, ha, capped, hb, cntV]) (l1Count_f ⟨hl, hc⟩ c0 c2 c3 H1 (by omega) (by omega) hL (by rw [hz]; omega))
          · exact calls_as (by simp [Ty.cnt, ha, capped, hb, cntV]) (l1Count_f_no ⟨hl, hc⟩ c0 c2 c3 H1 (by omega) (by omega) hL (by rw [hz]; omega))
/-- What TypeCount tells. -/
def cntO (o : Option Ty) : Int := match o with
  | some ty => cntV ty.cnt
  | none => -1
end Go.Proofs.Ytknjpdbdchnpeaa
