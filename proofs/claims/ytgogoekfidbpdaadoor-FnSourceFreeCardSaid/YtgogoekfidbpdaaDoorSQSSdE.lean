/- Merged: SdE. -/
import Derived.Test.YtgogoekfidbpdaaDoorSQ29
namespace Go.Proofs.YtgogoekfidbpdaaDoor
open Go.RowKit

/-- At most so many bytes for a source expression of a depth. -/
def mE : Nat → Nat
  | 0 => 1000
  | d + 1 => 3 * mE d + 300
/-- A draw of a source expression of a source type. -/
def SDraw (b d : Nat) : Prop :=
  ∀ (s : STy) (want : ByteArray) (r : Nat) (W : World) (p q : Option Addr) (n c e : Nat) (ns ts : List ByteArray) (i : Int) (ef : Bool), want = s.tree.txt → want.size + 12 * d ≤ 100 → Scp W p q n c e ns ts → Rd W b r → r + mE d ≤ 400000000 → n + d ≤ 18 → i = (d : Int) →
    Calls Tryd.prog 11 #[.pointer (some ⟨b, 0, none⟩), .agg #[.slice p n c, .slice q n e], .string want, .int .i64 i, .bool ef] W (Drawn b (r + mE d) (mE d) W)

/-- What is known of a world in which a source expression is drawn: the reader's block alone has turned. -/
structure SdW (b : Nat) (wB W2 : World) (g : Nat) (p q : Option Addr) (n c e : Nat) (ns ts : List ByteArray) (s : STy) (a : ByteArray) (tp : Option Addr) (tl tc : Nat) : Prop where
  cells : ∀ W, Px b W2 W → Cl0 g p q n c e W
  scope : ∀ W, Px b W2 W → Scp W p q n c e ns ts
  tcell : ∀ W, Px b W2 W → W.cell? ⟨W2.heap.size - 1, 0, none⟩ = some (.string a) ∧ W.cell? ⟨W2.heap.size - 1, 1, none⟩ = some (.slice tp tl tc)
  tree : ∀ W, Px b W2 W → TIn W (fun x => x ≠ b) s.tree ⟨a, tp, tl, tc⟩
  px : Px b wB W2
theorem sd_start {b r : Nat} {w : World} {p q : Option Addr} {n c e : Nat} {ns ts : List ByteArray} (hsc : Scp w p q n c e ns ts) (hr : Rd w b r) {w1 : World} {s : STy} {a : ByteArray} {tp : Option Addr} {tl tc : Nat}
    (ht : TIn w1 (fun x => (w.alloc (.cells #[.slice p n c, .slice q n e] 36)).heap.size ≤ x) s.tree ⟨a, tp, tl, tc⟩) (hb : Below (w.alloc (.cells #[.slice p n c, .slice q n e] 36)).heap.size (w.alloc (.cells #[.slice p n c, .slice q n e] 36)) w1) :
    SdW b w (w1.alloc (.cells #[.string a, .slice tp tl tc] 44)) w.heap.size p q n c e ns ts s a tp tl tc ∧ Rd (w1.alloc (.cells #[.string a, .slice tp tl tc] 44)) b r := by
  have hlt := hr.lt
  have hz : (w.alloc (.cells #[.slice p n c, .slice q n e] 36)).heap.size = w.heap.size + 1 := by simp
  have hz1 := hb.size
  rw [hz] at hz1
  have hr0 := hr.alloc (.cells #[.slice p n c, .slice q n e] 36)
  have hr1 : Rd w1 b r := hr0.below hb hr0.lt (Nat.le_refl _)
  have hr2 := hr1.alloc (.cells #[.string a, .slice tp tl tc] 44)
  have hx1 : Px b w w1 := ((Px.refl b w).alloc _).trans (Px.below hb (Nat.le_refl _))
  have hx2 := hx1.alloc (.cells #[.string a, .slice tp tl tc] 44)
  have c0 := cells_of_pair (heap_new w (.cells #[.slice p n c, .slice q n e] 36) _ rfl)
  have hne : w.heap.size ≠ b := by omega
  have hk2 : ∀ k, k < w1.heap.size → (w1.alloc (.cells #[.string a, .slice tp tl tc] 44)).heap[k]? = w1.heap[k]? := fun k hk => heap_alloc_old w1 _ hk
  have e0 : Cl0 w.heap.size p q n c e (w1.alloc (.cells #[.string a, .slice tp tl tc] 44)) :=
    ⟨Lib.cell?_alloc_some _ ((hb.cell (p := ⟨w.heap.size, 0, none⟩) (by rw [hz]; show w.heap.size < _; omega)).trans c0.1), Lib.cell?_alloc_some _ ((hb.cell (p := ⟨w.heap.size, 1, none⟩) (by rw [hz]; show w.heap.size < _; omega)).trans c0.2.1)⟩
  have c1 := cells_of_pair (heap_new w1 (.cells #[.string a, .slice tp tl tc] 44) _ rfl)
  have hzz : (w1.alloc (.cells #[.string a, .slice tp tl tc] 44)).heap.size - 1 = w1.heap.size := by simp
  refine ⟨⟨fun W hx => ?_, fun W hx => hsc.px hr (hx2.trans hx), fun W hx => ?_, fun W hx => ?_, hx2⟩, hr2⟩
  · exact ⟨hx.cell hne e0.1, hx.cell hne e0.2⟩
  · rw [hzz]
    exact ⟨hx.cell (by show w1.heap.size ≠ b; omega) c1.1, hx.cell (by show w1.heap.size ≠ b; omega) c1.2.1⟩
  · refine ht.keep (fun k hk hl => ?_) (fun k hk _ => by rw [hz] at hk; omega)
    rw [hz] at hk
    rw [hx.block k (by have := (show w1.heap.size ≤ (w1.alloc (.cells #[.string a, .slice tp tl tc] 44)).heap.size by simp); omega) (by omega)]
    exact hk2 k hl

theorem dfl_size (s : STy) : s.dfl.txt.size ≤ 3 * s.tree.write.length := by
  rw [txt_size]
  induction s with
  | bit => decide
  | fn a b iha ihb => simp [STy.dfl, STy.tree, Tree.write, Tree.writes] at iha ihb ⊢; omega
  | pair a b iha ihb => simp [STy.dfl, STy.tree, Tree.write, Tree.writes] at iha ihb ⊢; omega

set_option maxRecDepth 100000 in
set_option maxHeartbeats 8000000 in
theorem srcE_zero (b : Nat) : SDraw b 0 := by
  intro s want r w p q n c e ns ts i ef hw hz hsc hr hq hn hi
  subst hw
  subst hi
  have HT := hid (fun W => l7Typed_sty s (by omega) W)
  have HSC := hid hsc
  have HR := hid hr
  obtain ⟨want, hwant⟩ : ∃ want, s.tree.txt = want := ⟨_, rfl⟩
  have HWT := hid hwant
  have hln := hsc.a.1
  have hlt := hsc.b.1
  have hn20 := hsc.n20
  rw [hwant] at HT hz ⊢
  clear hsc hr
  go_enter Tryd.func11, Tryd.ntmps11
  go_wp2_with fail
  go_at_call 19
  refine (HT.out _).mono ?_
  rintro e1 w1 ⟨a1, p1, l1, c1, k1, rfl, ht1, hb1⟩
  have HSD := hid (sd_start HSC.out HR.out ht1 hb1)
  obtain ⟨W2, hW2⟩ : ∃ W, w1.alloc (.cells #[.string a1, .slice p1 l1 c1] 44) = W := ⟨_, rfl⟩
  have hzw : W2.heap.size - 1 = w1.heap.size := by rw [← hW2]; simp
  rw [hW2] at HSD
  have HD := hid HSD.out.1
  have HR2 := hid HSD.out.2
  have HWE := hid hW2
  obtain ⟨d0, d1⟩ := HD.out.cells W2 (Px.refl _ _)
  clear ht1 hb1 hW2 HSD
  have hln2 : (0 : Int) ≤ (n : Int) := by omega
  have d0' : (w1.alloc (.cells #[.string a1, .slice p1 l1 c1] 44)).cell? ⟨w.heap.size, 0, none⟩ = some (.slice p n c) := by rw [HWE.out]; exact d0
  have HSN := hid (show s.n ≤ 200 from by
    obtain ⟨_, _, h3⟩ := tree_dpS s
    have h4 : s.tree.txt.size = s.tree.write.length := txt_size _
    rw [HWT.out] at h4; omega)
  have HDZ := hid (show s.dfl.txt.size ≤ 900 from by
    have h1 := dfl_size s
    have h4 : s.tree.txt.size = s.tree.write.length := txt_size _
    rw [HWT.out] at h4; omega)
  clear d0 d1
  go_wp2_with fail
  rw [HWE.out]
  go_loopw [14] (fun u wr => ∃ k : Nat, k ≤ n ∧ u = .int .i64 ((k : Int) - 1) ∧ Hid (Rd wr b (r + (n - k))) ∧ Hid (Px b W2 wr)) (fun u _ => (intOf u + 1).toNat)
  case atStart => exact ⟨n, Nat.le_refl _, rfl, hid (HR2.out.le (by omega)), hid (Px.refl _ _)⟩
  case round =>
    obtain ⟨k, hk, rfl, hrr, hpx⟩ := hrel
    obtain ⟨e0, e1⟩ := HD.out.cells wr hpx.out
    obtain ⟨f0, f1⟩ := HD.out.tcell wr hpx.out
    rw [hzw] at f0 f1
    cases k with
    | zero =>
      have HDF := hid (l7Default_any s (HD.out.tree wr hpx.out) HSN.out wr (Kept.refl _) (Nat.le_refl _))
      have g0 : ¬ (0 : Int) ≤ ((0 : Nat) : Int) - 1 := by decide
      go_wp2_with fail
      go_at_call 22
      refine HDF.out.mono ?_
      rintro e2 w3 ⟨rfl, hb3⟩
      have HX3 := hid (HD.out.px.trans (hpx.out.trans (Px.below hb3 (Nat.le_refl _))))
      have HR3 := hid (hrr.out.below hb3 hrr.out.lt (Nat.le_refl _))
      clear hb3
      go_wp2_with fail
      go_ret
      refine ⟨_, rfl, ?_, HR3.out.le ?_, HX3.out⟩
      · have := HDZ.out; show _ ≤ 1000; omega
      · show _ ≤ r + 1000; omega
    | succ j =>
      have ej : ((j + 1 : Nat) : Int) - 1 = (j : Int) := by omega
      rw [ej]
      have hsc := HD.out.scope wr hpx.out
      have hjn : j < n := by omega
      obtain ⟨x, hx⟩ : ∃ x, ns[j]? = some x := ⟨_, List.getElem?_eq_getElem (by rw [hln]; exact hjn)⟩
      obtain ⟨g, rfl, hcx⟩ := hsc.a.2.2 j x hx
      have hx60 := hsc.na x (List.mem_of_getElem? hx)
      have hrd : Rd wr.drew b (r + (n - (j + 1))) := hrr.out.drew
      have hpd : Px b W2 wr.drew := hpx.out.trans (px_drewM b wr)
      have hscd := HD.out.scope wr.drew hpd
      obtain ⟨R, hR⟩ : ∃ R, l3 x.toList ns ts n = R := ⟨_, rfl⟩
      have HL := hid (show Calls Tryd.prog 20 #[.slice (some ⟨g, 0, none⟩) n c, .slice q n e, .string x] wr.drew fun e w' => e = .returned (.string R) ∧ wr.drew = w' from by
        rw [← hR]; exact l3Look_any x ns ts _ q n c e wr.drew hln hlt (by omega) (sv_vals hscd.a) (sv_vals hscd.b))
      have HPK := hid (pick_any hrd (by omega) 3 (by omega))
      have hgb : g ≠ b := rd_ne1 hrr.out hcx
      have K0 := hid (show wr.drew.cell? ⟨w.heap.size, 0, none⟩ = some (.slice (some ⟨g, 0, none⟩) n c) ∧ wr.drew.cell? ⟨w.heap.size, 1, none⟩ = some (.slice q n e) ∧ wr.drew.cell? ⟨g, j, none⟩ = some (.string x) from ⟨(HD.out.cells _ hpd).1, (HD.out.cells _ hpd).2, (px_drewM b wr).cell (a := ⟨g, j, none⟩) hgb hcx⟩)
      have HPD := hid hpd
      have HCX := hid hcx
      clear hsc hrd hpd hscd hR hx
      have hj0 : (0 : Int) ≤ (j : Int) := by omega
      have hj1 : (j : Int) < (n : Int) := by omega
      cases hB : R.toList == want.toList with
      | false =>
        go_wp2_with fail
        first
          | (go_region_with (go_at_call 20; refine HL.out.mono ?_; rintro e2 w4 ⟨rfl, rfl⟩))
          | fail
        all_goals
          go_wp2_with fail
          go_roundw
          case rel => exact ⟨j, by omega, by go_num, hid (hrr.out.drew.le (by omega)), HPD⟩
          case measure => simp [intOf]
      | true =>
        go_wp2_with fail
        go_region_held3 (fun w' => w'.cell? ⟨w.heap.size, 0, none⟩ = some (.slice (some ⟨g, 0, none⟩) n c) ∧ w'.cell? ⟨w.heap.size, 1, none⟩ = some (.slice q n e) ∧ w'.cell? ⟨g, j, none⟩ = some (.string x))
          (first | exact K0.out | exact K5.out)
          (first
            | (go_at_call 21
               refine HPK.out.mono ?_
               rintro e2 w5 ⟨x5, rfl, hx5a, hx5b, _, hr5, hp5⟩
               have K5 := hid (⟨(HPD.out.trans hp5), hp5.cell (a := ⟨g, j, none⟩) hgb K0.out.2.2⟩ : Px b W2 w5 ∧ w5.cell? ⟨g, j, none⟩ = some (.string x))
               have K5 := hid (show w5.cell? ⟨w.heap.size, 0, none⟩ = some (.slice (some ⟨g, 0, none⟩) n c) ∧ w5.cell? ⟨w.heap.size, 1, none⟩ = some (.slice q n e) ∧ w5.cell? ⟨g, j, none⟩ = some (.string x) from ⟨(HD.out.cells _ K5.out.1).1, (HD.out.cells _ K5.out.1).2, K5.out.2⟩)
               have HX5 := hid (HPD.out.trans hp5)
               have HR5 := hid hr5
               clear hr5 hp5)
            | (go_at_call 20
               refine HL.out.mono ?_
               rintro e2 w4 ⟨rfl, rfl⟩))
        all_goals
          obtain ⟨k0, k1, k2⟩ := K5.out
          by_cases h5 : 0 < x5
          · have h5b : decide (0 < x5) = true := decide_eq_true h5
            go_wp2_with fail
            go_ret
            exact ⟨x, rfl, by show _ ≤ 1000; omega, HR5.out.le (by show _ ≤ r + 1000; omega), HD.out.px.trans HX5.out⟩
          · have h5b : decide (0 < x5) = false := decide_eq_false h5
            go_wp2_with fail
            go_roundw
            case rel => exact ⟨j, by omega, by go_num, hid (HR5.out.le (by omega)), HX5⟩
            case measure => simp [intOf]
end Go.Proofs.YtgogoekfidbpdaaDoor
