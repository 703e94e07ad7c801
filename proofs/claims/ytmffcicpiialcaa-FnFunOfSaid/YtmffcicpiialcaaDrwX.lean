/- A draw's number is told by the code and the place alone. -/
import Derived.Test.YtmffcicpiialcaaDrwB
namespace Go.Proofs.Ytmffcicpiialcaa
open Go.RowKit

/-- A reader at a place of a code. -/
def RdX (w : World) (b k : Nat) (zs : List Int) : Prop := ∃ p n c, w.heap[b]? = some (.cells #[.slice p n c, .int .i64 ((k : Nat) : Int)] 58 (0, 0)) ∧ Code8 w b p n zs
theorem Rd.open {w : World} {b q : Nat} (h : Rd w b q) : ∃ k zs, k ≤ q ∧ (∀ z ∈ zs, 0 ≤ z ∧ z ≤ 255) ∧ RdX w b k zs := by
  obtain ⟨p, n, c, zs, k, h1, h2, h3⟩ := h
  exact ⟨k, zs, h2, h3.2.2.1, p, n, c, h1, h3⟩
theorem RdX.rd {w : World} {b k : Nat} {zs : List Int} (h : RdX w b k zs) : Rd w b k := by
  obtain ⟨p, n, c, h1, h2⟩ := h
  exact ⟨p, n, c, zs, k, h1, Nat.le_refl _, h2⟩
theorem RdX.below {w w' : World} {b k B : Nat} {zs : List Int} (h : RdX w b k zs) (hb : Below B w w') (hB : b < B) (hB2 : w.heap.size ≤ B) : RdX w' b k zs := by
  obtain ⟨p, n, c, h1, h2⟩ := h
  exact ⟨p, n, c, (hb.block b hB).trans h1, h2.px (Px.below hb hB2)⟩
theorem RdX.alloc {w : World} {b k : Nat} {zs : List Int} (h : RdX w b k zs) (o : Obj) : RdX (w.alloc o) b k zs :=
  h.below ((Below.refl w.heap.size w).alloc (Nat.le_refl _) o) h.rd.lt (Nat.le_refl _)
theorem RdX.drew {w : World} {b k : Nat} {zs : List Int} (h : RdX w b k zs) : RdX w.drew b k zs := h.below (Below.refl w.heap.size w).drew h.rd.lt (Nat.le_refl _)
theorem rdx_next {w : World} {b k : Nat} {p : Option Addr} {n c : Nat} {zs : List Int} (hb : w.heap[b]? = some (.cells #[.slice p n c, .int .i64 ((k : Nat) : Int)] 58 (0, 0))) (hc : Code8 w b p n zs) (u : Int) (hu : u = (k : Int) + 1) :
    RdX (w.setCell ⟨b, 1, none⟩ (.int .i64 u)) b (k + 1) zs ∧ Px b w (w.setCell ⟨b, 1, none⟩ (.int .i64 u)) := by
  have hp : Px b w (w.setCell ⟨b, 1, none⟩ (.int .i64 u)) := ⟨rfl, rfl, rfl, by simp [World.setCell], fun i _ hi => Below.heap_setCell _ _ _ _ hi⟩
  subst hu
  exact ⟨⟨p, n, c, by rw [pair_setCell1 hb]; rfl, hc.px hp⟩, hp⟩
theorem rdx_quiet {w w' : World} {b k : Nat} {zs : List Int} (h : RdX w' b k zs ∧ Px b w w') (m : Nat) : RdX (w'.drewN m) b k zs ∧ Px b w (w'.drewN m) :=
  ⟨h.1.below (below_drewN (Below.refl w'.heap.size w') m) h.1.rd.lt (Nat.le_refl _), h.2.trans (Px.below (below_drewN (Below.refl w'.heap.size w') m) (Nat.le_refl _))⟩
/-- What a draw of a number tells, given the number. -/
def PickX (b k : Nat) (zs : List Int) (x : Int) (w : World) (e : Ending) (w' : World) : Prop := e = .returned (.int .i64 x) ∧ RdX w' b k zs ∧ Px b w w'

set_option maxRecDepth 100000 in
set_option maxHeartbeats 2000000 in
/-- THE NUMBER THAT IS DRAWN, AHEAD OF THE DRAW. -/
theorem pick_det (zs : List Int) (k : Nat) (n : Int) (hz : ∀ z ∈ zs, 0 ≤ z ∧ z ≤ 255) (hk : k ≤ 1099511627776) (h1 : 1 ≤ n) (hn : n ≤ 9223372036854775807) :
    ∃ x : Int, 0 ≤ x ∧ x < n ∧ ∀ w b, RdX w b k zs → Calls Try.prog 12 #[.pointer (some ⟨b, 0, none⟩), .int .i64 n] w (PickX b (k + 1) zs x w) := by
  by_cases h2 : zs.length = 0
  · refine ⟨0, by omega, by omega, ?_⟩
    rintro w b ⟨p, len, c, hb, hc⟩
    obtain rfl : len = 0 := by rw [← hc.1]; exact h2
    have cc := cells_of_pair hb
    have c1 := cells_of_pair (pair_setCell1 (u := .int .i64 ((k : Int) + 1)) hb)
    have HN := hid (rdx_next hb hc)
    have h3 : ¬ n < 1 := by omega
    clear hb hc h2 hz
    go_enter Try.func12, Try.ntmps12
    go_wp2_with fail
    go_ret
    exact ⟨rfl, HN.out _ rfl⟩
  by_cases h3 : k < zs.length
  · have he := emod_lt zs[k] n h1
    refine ⟨zs[k] % n, he.1, he.2, ?_⟩
    rintro w b ⟨p, len, c, hb, hc⟩
    obtain ⟨hl, hlen, _, _, hv⟩ := hc.px (rdx_next hb hc _ rfl).2
    have hx : zs[k]? = some zs[k] := List.getElem?_eq_getElem h3
    obtain ⟨g, o, he2, hcz⟩ := hv k _ (u8s_get hx)
    subst he2
    have hzz := hz _ (List.mem_of_getElem? hx)
    have cc := cells_of_pair hb
    have c1 := cells_of_pair (pair_setCell1 (u := .int .i64 ((k : Int) + 1)) hb)
    have HN := hid (rdx_next hb hc)
    have h3' : k < len := by omega
    have h4 : ¬ n < 1 := by omega
    have h5 : ¬ len = 0 := by omega
    obtain ⟨z, hzq⟩ : ∃ z, zs[k] = z := ⟨_, rfl⟩
    rw [hzq] at hcz hzz ⊢
    have z0 := hzz.1
    have z1 := hzz.2
    clear hb hc h2 hz hv hx hzz hzq he hl h3
    go_enter Try.func12, Try.ntmps12
    go_wp2_with fail
    go_ret
    exact ⟨rfl, HN.out _ rfl⟩
  · obtain ⟨a1, ha1⟩ : ∃ a1, k % zs.length = a1 := ⟨_, rfl⟩
    obtain ⟨a2, ha2⟩ : ∃ a2, (k * 7 + 3) % zs.length = a2 := ⟨_, rfl⟩
    have l1 : a1 < zs.length := by rw [← ha1]; exact Nat.mod_lt _ (by omega)
    have l2 : a2 < zs.length := by rw [← ha2]; exact Nat.mod_lt _ (by omega)
    have hxa : zs[a1]? = some zs[a1] := List.getElem?_eq_getElem l1
    have hxb : zs[a2]? = some zs[a2] := List.getElem?_eq_getElem l2
    obtain ⟨z, hzq⟩ : ∃ z, zs[a1] = z := ⟨_, rfl⟩
    obtain ⟨y, hyq⟩ : ∃ y, zs[a2] = y := ⟨_, rfl⟩
    rw [hzq] at hxa
    rw [hyq] at hxb
    have hz1 := hz _ (List.mem_of_getElem? hxa)
    have hz2 := hz _ (List.mem_of_getElem? hxb)
    have he := emod_lt (bits BinOp.xor IntKind.i64 (z * 131 + y * 1117 + (k : Int) * 29 + (k : Int) / (zs.length : Int) * 53) ((z * 131 + y * 1117 + (k : Int) * 29 + (k : Int) / (zs.length : Int) * 53) / 64)) n h1
    refine ⟨_, he.1, he.2, ?_⟩
    rintro w b ⟨p, len, c, hb, hc⟩
    obtain ⟨hl, hlen, _, _, hv⟩ := hc.px (rdx_next hb hc _ rfl).2
    obtain ⟨g, o, he2, hcz⟩ := hv a1 _ (u8s_get hxa)
    obtain ⟨g2, o2, he3, hcy⟩ := hv a2 _ (u8s_get hxb)
    subst he2
    obtain ⟨rfl, rfl⟩ : g = g2 ∧ o = o2 := by simpa using he3
    have cc := cells_of_pair hb
    have c1 := cells_of_pair (pair_setCell1 (u := .int .i64 ((k : Int) + 1)) hb)
    have HN := hid (rdx_next hb hc)
    rw [hl] at ha1 ha2 l1 l2 h2 h3 ⊢
    have h4 : ¬ n < 1 := by omega
    have e1 : (k : Int) % (len : Int) = (a1 : Int) := by rw [← ha1]; rfl
    have e2 : ((k : Int) * 7 + 3) % (len : Int) = (a2 : Int) := by rw [← ha2]; simp
    have d0 : (0 : Int) ≤ (k : Int) / (len : Int) := Int.ediv_nonneg (by omega) (by omega)
    have d1 : (k : Int) / (len : Int) ≤ (k : Int) := Int.ediv_le_self _ (by omega)
    have z0 := hz1.1
    have z1 := hz1.2
    have y0 := hz2.1
    have y1 := hz2.2
    have H1 := hid h1
    clear hb hc hz hv hxa hxb hz1 hz2 hzq hyq he he3 hl ha1 ha2
    go_enter Try.func12, Try.ntmps12
    go_wp2_with fail
    go_quiet (fail)
    go_wp2_with fail
    go_ret
    have hx0 : (0 : Int) ≤ z * 131 + y * 1117 + (k : Int) * 29 + (k : Int) / (len : Int) * 53 := by omega
    have hx1 : z * 131 + y * 1117 + (k : Int) * 29 + (k : Int) / (len : Int) * 53 < 4611686018427387904 := by omega
    generalize z * 131 + y * 1117 + (k : Int) * 29 + (k : Int) / (len : Int) * 53 = X at hx0 hx1 ⊢
    have hb := xor_i64 X (X / 64) hx0 hx1 (by omega) (by omega)
    generalize bits BinOp.xor IntKind.i64 X (X / 64) = Z at hb ⊢
    rw [Int.tmod_eq_emod_of_nonneg hb.1]
    exact ⟨rfl, rdx_quiet (HN.out _ rfl) _⟩
end Go.Proofs.Ytmffcicpiialcaa
