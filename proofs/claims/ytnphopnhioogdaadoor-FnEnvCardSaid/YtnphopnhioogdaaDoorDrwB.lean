/- A draw of a number. -/
import Derived.Test.YtnphopnhioogdaaDoorDrwA
namespace Go.Proofs.YtnphopnhioogdaaDoor
open Go.RowKit

theorem rd_next {w : World} {b q k : Nat} {p : Option Addr} {n c : Nat} {zs : List Int} (hb : w.heap[b]? = some (.cells #[.slice p n c, .int .i64 ((k : Nat) : Int)] 75 (0, 0))) (hk : k ≤ q) (hc : Code8 w b p n zs) (u : Int) (hu : u = (k : Int) + 1) :
    Rd (w.setCell ⟨b, 1, none⟩ (.int .i64 u)) b (q + 1) ∧ Px b w (w.setCell ⟨b, 1, none⟩ (.int .i64 u)) := by
  have hp : Px b w (w.setCell ⟨b, 1, none⟩ (.int .i64 u)) := ⟨rfl, rfl, rfl, by simp [World.setCell], fun i _ hi => Below.heap_setCell _ _ _ _ hi⟩
  subst hu
  exact ⟨⟨p, n, c, zs, k + 1, by rw [pair_setCell1 hb]; rfl, by omega, hc.px hp⟩, hp⟩
theorem rd_quiet {w w' : World} {b q : Nat} (h : Rd w' b q ∧ Px b w w') (m : Nat) : Rd (w'.drewN m) b q ∧ Px b w (w'.drewN m) :=
  ⟨h.1.below (below_drewN (Below.refl w'.heap.size w') m) h.1.lt (Nat.le_refl _), h.2.trans (Px.below (below_drewN (Below.refl w'.heap.size w') m) (Nat.le_refl _))⟩
theorem emod_lt (x n : Int) (hn : 1 ≤ n) : 0 ≤ x % n ∧ x % n < n := by
  exact ⟨Int.emod_nonneg _ (by omega), Int.emod_lt_of_pos _ (by omega)⟩

/-- What a draw of a number tells. -/
def PickPost (b q : Nat) (n : Int) (w : World) (e : Ending) (w' : World) : Prop := ∃ x : Int, e = .returned (.int .i64 x) ∧ 0 ≤ x ∧ (1 ≤ n → x < n) ∧ (n < 1 → x = 0) ∧ Rd w' b q ∧ Px b w w'
theorem pick_got {b q : Nat} {n x : Int} {w w' : World} (h0 : 0 ≤ x) (hx : x < n) (hr : Rd w' b q ∧ Px b w w') : PickPost b q n w (.returned (.int .i64 x)) w' := ⟨x, rfl, h0, fun _ => hx, fun h => by omega, hr.1, hr.2⟩
theorem pick_none {b q : Nat} {n : Int} {w w' : World} (hr : Rd w' b q ∧ Px b w w') : PickPost b q n w (.returned (.int .i64 0)) w' := ⟨0, rfl, Int.le_refl _, fun h => Int.lt_of_lt_of_le (by decide) h, fun _ => rfl, hr.1, hr.2⟩

set_option maxRecDepth 100000 in
set_option maxHeartbeats 2000000 in
/-- A number that is drawn: from 0 on and below n. -/
theorem pick_any {w : World} {b q : Nat} (hr : Rd w b q) (hq : q ≤ 1099511627776) (n : Int) (hn : -9223372036854775808 ≤ n ∧ n ≤ 9223372036854775807) :
    Calls Tryd.prog 55 #[.pointer (some ⟨b, 0, none⟩), .int .i64 n] w (PickPost b (q + 1) n w) := by
  obtain ⟨p, len, c, zs, k, hb, hk, hc⟩ := hr
  have cc := cells_of_pair hb
  have c1 := cells_of_pair (pair_setCell1 (u := .int .i64 ((k : Int) + 1)) hb)
  have HN := hid (rd_next hb hk hc)
  have hlen := hc.2.1
  have HC := hid hc
  have hk2 : k ≤ 1099511627776 := by omega
  clear hb hc
  by_cases h1 : n < 1
  · go_enter Tryd.func55, Tryd.ntmps55
    go_wp2_with fail
    go_ret
    exact pick_none (HN.out _ rfl)
  by_cases h2 : len = 0
  · subst h2
    go_enter Tryd.func55, Tryd.ntmps55
    go_wp2_with fail
    go_ret
    exact pick_none (HN.out _ rfl)
  have hz : ∀ i, i < len → ∃ z : Int, 0 ≤ z ∧ z ≤ 255 ∧ ∃ g o, p = some ⟨g, o, none⟩ ∧ (w.setCell ⟨b, 1, none⟩ (.int .i64 ((k : Int) + 1))).cell? ⟨g, o + i, none⟩ = some (.int .u8 z) := by
    intro i hi
    obtain ⟨h1, h2, h3, h4, h5⟩ := HC.out.px (HN.out _ rfl).2
    have hx : zs[i]? = some zs[i] := List.getElem?_eq_getElem (by omega)
    obtain ⟨g, o, he, hc⟩ := h5 i _ (u8s_get hx)
    have := h3 _ (List.mem_of_getElem? hx)
    exact ⟨_, this.1, this.2, g, o, he, hc⟩
  by_cases h3 : k < len
  · obtain ⟨z, z0, z1, g, o, rfl, hcz⟩ := hz k h3
    clear hz
    have TM := hid (emod_lt z n (by omega))
    have H1 := hid h1
    go_enter Tryd.func55, Tryd.ntmps55
    go_wp2_with fail
    go_ret
    exact pick_got TM.out.1 TM.out.2 (HN.out _ rfl)
  · obtain ⟨a1, ha1⟩ : ∃ a1, k % len = a1 := ⟨_, rfl⟩
    obtain ⟨a2, ha2⟩ : ∃ a2, (k * 7 + 3) % len = a2 := ⟨_, rfl⟩
    have l1 : a1 < len := by rw [← ha1]; exact Nat.mod_lt _ (by omega)
    have l2 : a2 < len := by rw [← ha2]; exact Nat.mod_lt _ (by omega)
    have e1 : (k : Int) % (len : Int) = (a1 : Int) := by rw [← ha1]; rfl
    have e2 : ((k : Int) * 7 + 3) % (len : Int) = (a2 : Int) := by rw [← ha2]; simp
    obtain ⟨z, z0, z1, g, o, rfl, hcz⟩ := hz a1 l1
    obtain ⟨y, y0, y1, g2, o2, hg2, hcy⟩ := hz a2 l2
    obtain ⟨rfl, rfl⟩ : g = g2 ∧ o = o2 := by simpa using hg2
    have d0 : (0 : Int) ≤ (k : Int) / (len : Int) := Int.ediv_nonneg (by omega) (by omega)
    have d1 : (k : Int) / (len : Int) ≤ (k : Int) := Int.ediv_le_self _ (by omega)
    have H1 := hid h1
    clear hz ha1 ha2 hg2
    go_enter Tryd.func55, Tryd.ntmps55
    go_wp2_with fail
    go_quiet (fail)
    go_wp2_with fail
    go_ret
    have hx0 : (0 : Int) ≤ z * 131 + y * 1117 + (k : Int) * 29 + (k : Int) / (len : Int) * 53 := by omega
    have hx1 : z * 131 + y * 1117 + (k : Int) * 29 + (k : Int) / (len : Int) * 53 < 4611686018427387904 := by omega
    generalize z * 131 + y * 1117 + (k : Int) * 29 + (k : Int) / (len : Int) * 53 = X at hx0 hx1 ⊢
    have hb := xor_i64 X (X / 64) hx0 hx1 (by omega) (by omega)
    generalize bits BinOp.xor IntKind.i64 X (X / 64) = Z at hb ⊢
    rw [Int.tmod_eq_emod_of_nonneg hb.1]
    have he := emod_lt Z n H1.out
    exact pick_got he.1 he.2 (rd_quiet (HN.out _ rfl) _)
end Go.Proofs.YtnphopnhioogdaaDoor
