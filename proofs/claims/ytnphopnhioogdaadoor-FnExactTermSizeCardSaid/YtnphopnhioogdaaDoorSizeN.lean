/- The size of a term. -/
import Derived.Test.YtnphopnhioogdaaDoorSizeN0
import Derived.Test.YtnphopnhioogdaaDoorSizeP
namespace Go.Proofs.YtnphopnhioogdaaDoor
open Go.RowKit

set_option maxRecDepth 100000 in
set_option maxHeartbeats 2000000 in
/-- THE PROGRAM's COUNT OF A TERM's ATOMS. -/
theorem size_any {w0 : World} {S : Nat → Prop} {m : Tm} {b : Nat} (hn : NIn w0 S m b) : m.size ≤ 400000000 → ∀ w, Kept w0 w → w0.heap.size ≤ w.heap.size →
    Calls Tryd.prog 51 #[.pointer (some ⟨b, 0, none⟩)] w fun e w' => e = .returned (.int .i64 (m.size : Int)) ∧ Below w.heap.size w w' := by
  induction hn with
  | mk hd a d bs ty ks b bp bl bc kp kl kc A hS hb hbl hkl hbn hbv hkv hks ih =>
   intro hsz w hk hw
   rw [Tm.size] at hsz
   have hlt0 := lt_of_block hb
   have c := cells_of_six ((hk b hlt0).trans hb)
   have HLT := hid (show b < w.heap.size by omega)
   have HKL := hid hkl
   have HBL := hid hbl
   have HKV := hid hkv
   have HIH := hid ih
   have HK := hid hk
   clear ih hk hb hbn hbv hS
   cases ty with
  | none =>
    have c4 := c.2.2.2.2.1
    have c3 := c.2.2.2.1
    have c5 := c.2.2.2.2.2.1
    clear c
    simp only [tyV] at c4
    have hsz2 : Tm.sizes ks ≤ 400000000 := by omega
    have hkl3 : kl ≤ 400000000 := by have := tmsizes_length ks; omega
    have hbl3 : bl ≤ 400000000 := by omega
    have HSZ := hid hsz
    clear hsz hbl hkl hks hkv
    go_enter Tryd.func51, Tryd.ntmps51
    go_wp2_with fail
    have hb1 := Below.refl w.heap.size w
    go_loopw [3, 29] (fun a u wr => ∃ i : Nat, i ≤ kl ∧ u = .int .i64 (i : Int) ∧ a = .int .i64 (1 + (bl : Int) + (Tm.sizes (ks.take i) : Int)) ∧ Below w.heap.size w wr) (fun _ u _ => kl - (intOf u).toNat)
    case atStart => exact ⟨0, Nat.zero_le _, rfl, by simp [Tm.sizes], hb1⟩
    case round =>
      obtain ⟨i, hi, rfl, rfl, hbel⟩ := hrel
      have hz := hbel.size
      have htk := tmsizes_take ks i
      by_cases hlt : i < kl
      · obtain ⟨k, hki⟩ : ∃ k, ks[i]? = some k := ⟨_, List.getElem?_eq_getElem (by rw [HKL.out]; exact hlt)⟩
        obtain ⟨g, rfl, _, hc⟩ := HKV.out i _ (ptrs_get A hlt)
        have hkw : Kept w0 wr := HK.out.below hbel (by omega)
        have hc' := hkw.cell hc
        have HC := hid (HIH.out i k hki (by have := tmsizes_snoc ks i k hki; have := tmsizes_take ks (i + 1); omega) wr hkw (by omega))
        have hsn := tmsizes_snoc ks i k hki
        have htk2 := tmsizes_take ks (i + 1)
        have hbd : Tm.sizes (ks.take i) + k.size ≤ 400000000 := by omega
        have HSN := hid hsn
        clear hc hki hsn htk2 hkw c5
        go_wp2_with (go_at_call 51; refine HC.out.mono ?_; rintro e w2 ⟨rfl, hb2⟩)
        go_roundw
        case rel => exact ⟨i + 1, by omega, by go_num, by rw [HSN.out]; go_num, hbel.trans (hb2.mono (by omega))⟩
        case measure => simp [intOf]; omega
      · have hin : i = kl := by omega
        have HE := hid (show ks.take i = ks from List.take_of_length_le (by rw [HKL.out]; omega))
        clear hin
        go_wp2_with fail
        go_ret
        exact ⟨ret_int (by rw [HE.out, Tm.size, HBL.out]; simp only [tyAtoms]; omega), hbel⟩
  | some t =>
    have c4 := c.2.2.2.2.1
    have c3 := c.2.2.2.1
    have c5 := c.2.2.2.2.2.1
    clear c
    obtain ⟨tn, tv, htv⟩ := t.val_iface
    have HTA := hid (fun W => typeAtoms_any t (by simp only [tyAtoms] at hsz; omega) W)
    have hta2 : t.atoms ≤ 400000000 := by simp only [tyAtoms] at hsz; omega
    simp only [tyV] at c4
    rw [htv] at HTA c4
    clear htv
    have hsz2 : Tm.sizes ks ≤ 400000000 := by omega
    have hkl3 : kl ≤ 400000000 := by have := tmsizes_length ks; omega
    have hbl3 : bl ≤ 400000000 := by omega
    have HSZ := hid hsz
    clear hsz hbl hkl hks hkv
    go_enter Tryd.func51, Tryd.ntmps51
    go_wp2_with (go_at_call 72; refine (HTA.out _).mono ?_; rintro e w1 ⟨rfl, hb1⟩; have kc := (hb1.cell (p := ⟨b, 5, none⟩) HLT.out).trans c5)
    go_loopw [3, 29] (fun a u wr => ∃ i : Nat, i ≤ kl ∧ u = .int .i64 (i : Int) ∧ a = .int .i64 (1 + (bl : Int) + (t.atoms : Int) + (Tm.sizes (ks.take i) : Int)) ∧ Below w.heap.size w wr) (fun _ u _ => kl - (intOf u).toNat)
    case atStart => exact ⟨0, Nat.zero_le _, rfl, by simp [Tm.sizes], hb1⟩
    case round =>
      obtain ⟨i, hi, rfl, rfl, hbel⟩ := hrel
      have hz := hbel.size
      have htk := tmsizes_take ks i
      by_cases hlt : i < kl
      · obtain ⟨k, hki⟩ : ∃ k, ks[i]? = some k := ⟨_, List.getElem?_eq_getElem (by rw [HKL.out]; exact hlt)⟩
        obtain ⟨g, rfl, _, hc⟩ := HKV.out i _ (ptrs_get A hlt)
        have hkw : Kept w0 wr := HK.out.below hbel (by omega)
        have hc' := hkw.cell hc
        have HC := hid (HIH.out i k hki (by have := tmsizes_snoc ks i k hki; have := tmsizes_take ks (i + 1); omega) wr hkw (by omega))
        have hsn := tmsizes_snoc ks i k hki
        have htk2 := tmsizes_take ks (i + 1)
        have hbd : Tm.sizes (ks.take i) + k.size ≤ 400000000 := by omega
        have HSN := hid hsn
        clear hc hki hsn htk2 hkw c5
        go_wp2_with (go_at_call 51; refine HC.out.mono ?_; rintro e w2 ⟨rfl, hb2⟩)
        go_roundw
        case rel => exact ⟨i + 1, by omega, by go_num, by rw [HSN.out]; go_num, hbel.trans (hb2.mono (by omega))⟩
        case measure => simp [intOf]; omega
      · have hin : i = kl := by omega
        have HE := hid (show ks.take i = ks from List.take_of_length_le (by rw [HKL.out]; omega))
        clear hin
        go_wp2_with fail
        go_ret
        exact ⟨ret_int (by rw [HE.out, Tm.size, HBL.out]; simp only [tyAtoms]; omega), hbel⟩

end Go.Proofs.YtnphopnhioogdaaDoor
