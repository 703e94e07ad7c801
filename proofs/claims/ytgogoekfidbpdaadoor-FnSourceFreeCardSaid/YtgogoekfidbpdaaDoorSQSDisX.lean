/- Merged: DisX. -/
import Derived.Test.YtgogoekfidbpdaaDoorSQSContS
import Derived.Test.YtgogoekfidbpdaaDoorSQ12
import Derived.Test.YtgogoekfidbpdaaDoorSQ0
namespace Go.Proofs.YtgogoekfidbpdaaDoor
open Go.RowKit

set_option maxRecDepth 100000 in
set_option maxHeartbeats 2000000 in
theorem distinct_any (F : List ByteArray) (p : Option Addr) (n c : Nat) (w : World) (hsv : SV w p n c F) (hlt0 : ∀ g o, p = some ⟨g, o, none⟩ → g < w.heap.size) (hn : n ≤ 50000) : Calls Tryd.prog 13 #[.slice p n c] w (OwnS (dedB [] F) w) := by
  obtain ⟨R, hRR⟩ : ∃ R, dedB [] F = R := ⟨_, rfl⟩
  rw [hRR]
  have HRR := hid hRR
  have HSV := hid hsv
  have HNL := hid hsv.1
  have HL3 := hid hlt0
  clear hsv hRR hlt0
  obtain ⟨i0, hi0, hz0, hz1, hz2⟩ := info_parts Tryd.infoStr
  go_enter Tryd.func13, Tryd.ntmps13
  go_wp2_with fail
  go_loopw [3, 8] (fun v u wr => ∃ (i k kc : Nat) (q : Option Addr) (L1 : List ByteArray), i ≤ n ∧ k ≤ i ∧ u = .int .i64 (i : Int) ∧ v = .slice q k kc ∧ wr.ownsRow w.heap.size 9 1 (.slice q k kc) k (L1.map Value.string) ∧ Below w.heap.size w wr ∧ Hid (L1.length = k ∧ dedB L1 (F.drop i) = R)) (fun _ u _ => n - (intOf u).toNat)
  case atStart => exact ⟨0, 0, 0, none, [], Nat.zero_le _, Nat.le_refl _, rfl, rfl, World.ownsRow_nil _ _ _ _, Below.refl _ _, hid ⟨rfl, by rw [List.drop_zero]; exact HRR.out⟩⟩
  case round =>
    obtain ⟨i, k, kc, q, L1, hi, hki, rfl, rfl, hown, hbel, hL⟩ := hrel
    have hz := hbel.size
    have HOWN := hid hown
    have HBEL := hid hbel
    clear hown hbel
    by_cases hlt : i < n
    · obtain ⟨x, hx⟩ : ∃ x, F[i]? = some x := ⟨_, List.getElem?_eq_getElem (by rw [HNL.out]; exact hlt)⟩
      obtain ⟨g, rfl, hc⟩ := HSV.out.2.2 i x hx
      have hc' := (HBEL.out.cell (p := ⟨g, i, none⟩) (HL3.out g 0 rfl)).trans hc
      have hst := hL.out.2
      rw [drop_at hx, dedB] at hst
      have HCT := hid (contains_sv q k kc L1 x wr (sv_own HOWN.out) (by omega))
      clear hc hx
      cases e0 : hasB L1 x.toList with
      | true =>
        rw [if_pos e0] at hst
        rw [e0] at HCT
        have HL2 := hid (And.intro hL.out.1 hst)
        clear hst hL e0
        go_wp2_with (go_at_call 31; refine HCT.out.mono ?_; rintro e w4 ⟨rfl, rfl⟩)
        go_roundw
        case rel => exact ⟨i + 1, k, kc, q, L1, by omega, by omega, by go_num, rfl, HOWN.out, HBEL.out, HL2⟩
        case measure => simp [intOf]; omega
      | false =>
        rw [if_neg (by rw [e0]; simp)] at hst
        rw [e0] at HCT
        have HL2 := hid (show (L1 ++ [x]).length = k + 1 ∧ dedB (L1 ++ [x]) (F.drop (i + 1)) = R from ⟨by simp [hL.out.1], hst⟩)
        clear hst hL e0
        go_wp2_with (first | (at_builtin; refine wpList_append_at _ rfl _ _ 24 rfl w.heap.size 9 i0 (.string ByteArray.empty) 1 16 Tryd.underlying24 hi0 hz0 hz1 hz2 rfl (by decide) (.slice q k kc) k _ rfl (HOWN.out.alloc _) ⟨wr.heap.size, 0, none⟩ 1 1 [.string x] rfl rfl (cells_new1 _ _ _ _ rfl) (by intro u hu; simp at hu; subst hu; rfl) (by decide) (by unfold maxLen; omega) (by omega) (by simp; omega) ?_; intro v' w5 hown2 hg2 hw2 hv2; obtain ⟨g2, kc2, rfl⟩ := hv2; have HG := hid hg2; have HO := hid hown2; clear hg2 hown2 hw2) | (go_at_call 31; refine HCT.out.mono ?_; rintro e w4 ⟨rfl, rfl⟩))
        go_roundw
        case rel =>
          refine ⟨i + 1, k + 1, kc2, some ⟨g2, 0, none⟩, L1 ++ [x], by omega, by omega, by go_num, rfl, by rw [List.map_append]; exact HO.out, ?_, HL2⟩
          exact (HBEL.out.alloc (by omega) _).grown HG.out (by simp; omega) (fun k e => (HOWN.out.lt k e).1)
        case measure => simp [intOf]; omega
    · have he : R = L1 := by
        have := hL.out.2
        rw [List.drop_of_length_le (by rw [HNL.out]; omega)] at this
        exact this.symm
      have HE := hid he
      have HL1 := hid hL.out.1
      clear he hL
      go_wp2_with fail
      go_ret
      rw [HE.out]
      exact ⟨q, kc, by rw [HL1.out]; rfl, by rw [HL1.out]; exact HOWN.out, HBEL.out⟩
end Go.Proofs.YtgogoekfidbpdaaDoor
