/- The law of FunOf itself. -/
import Derived.Test.YtdeahcejbdcmpaaLawJ
namespace Go.Proofs.Ytdeahcejbdcmpaa
open Go.RowKit

set_option maxRecDepth 100000 in
set_option maxHeartbeats 2000000 in
theorem lawFunOf (s : ByteArray) (hs : s.size ≤ 9223372036854775807) (zs : List Int) (p : Option Addr) (n c : Nat) (w : World) (hn : zs.length = n) (hnb : n ≤ 9223372036854775807) (hv : Vals w p (ints zs)) :
    Calls Try.prog 5 #[.string s, .slice p n c] w fun e w' => e = .returned (.bool true) ∧ Below w.heap.size w w' := by
  have HV := hid hv
  clear hv
  by_cases h : s.size ≤ 1048576
  · by_cases h2 : n ≤ 1048576
    · have HT := hid (fun (W : World) (hk : Kept w W) => toIntS_any zs p n c W hn (by omega) (HV.out.kept hk))
      have HA := hid (fun g W (hv : Vals W (some ⟨g, 0, none⟩) (ints zs)) => specFunOf_any s (by omega) zs (some ⟨g, 0, none⟩) n n W hn (by omega) hv)
      have HB := hid (fun g W (hv : Vals W (some ⟨g, 0, none⟩) (ints zs)) => implFunOf_any s (by omega) zs (some ⟨g, 0, none⟩) n n W hn (by omega) hv)
      have HE := hid (fun g g' W (hv : Vals W (some ⟨g, 0, none⟩) (ints zs)) (hv' : Vals W (some ⟨g', 0, none⟩) (ints zs)) => eqInts_same zs (some ⟨g, 0, none⟩) (some ⟨g', 0, none⟩) n n n W hn (by omega) hv hv')
      unfold FaPost at HA HB
      obtain ⟨r0, h0⟩ : ∃ r, faV (foX (around (readTy s) 62 62 0) zs) = r := ⟨_, rfl⟩
      obtain ⟨r1, h1⟩ : ∃ r, (foX (around (readTy s) 62 62 0) zs).isSome = r := ⟨_, rfl⟩
      rw [h0, h1] at HA HB
      clear h0 h1
      have q0 : (r0 != r0) = false := by simp
      have q1 : (r1 != r1) = false := by simp
      have HN := hid hn
      clear hn
      go_enter Try.func5, Try.ntmps5
      go_wp2_with (first
        | (have _ := hb4; go_at_call 11; refine (HT.out _ (Kept.of_below (((hb1.trans (hb2.mono hb1.size)).trans (hb3.mono (Nat.le_trans hb1.size hb2.size))).trans (hb4.mono (Nat.le_trans (Nat.le_trans hb1.size hb2.size) hb3.size))) (Nat.le_refl _))).mono ?_; rintro e w5 ⟨g5, rfl, hown5, hb5⟩; have HV5 := hid (vals_own hown5); have HX5 := hid (HV3.out.kept ((Kept.of_below hb4 (Nat.le_refl _)).trans (Kept.of_below hb5 (Nat.le_refl _)) hb4.size)); clear hown5)
        | (have _ := hb2; go_at_call 11; refine (HT.out _ (Kept.of_below (hb1.trans (hb2.mono hb1.size)) (Nat.le_refl _))).mono ?_; rintro e w3 ⟨g3, rfl, hown3, hb3⟩; have HV3 := hid (vals_own hown3); clear hown3)
        | (go_at_call 11; refine (HT.out _ (Kept.refl _)).mono ?_; rintro e w1 ⟨g1, rfl, hown1, hb1⟩; have HV1 := hid (vals_own hown1); clear hown1)
        | (go_at_call 10; refine (HA.out _ _ HV1.out).mono ?_; rintro e w2 ⟨rfl, hb2⟩)
        | (go_at_call 12; refine (HB.out _ _ HV3.out).mono ?_; rintro e w4 ⟨rfl, hb4⟩)
        | (go_at_call 13; refine (HE.out _ _ _ HX5.out HV5.out).mono ?_; rintro e w6 ⟨rfl, hb6⟩))
      go_ret
      have z1 := hb1.size
      have z2 := hb2.size
      have z3 := hb3.size
      have z4 := hb4.size
      have z5 := hb5.size
      exact ⟨rfl, hb1.trans ((hb2.mono z1).trans ((hb3.mono (by omega)).trans ((hb4.mono (by omega)).trans ((hb5.mono (by omega)).trans (hb6.mono (by omega))))))⟩
    · have h3 : 1048576 < n := by omega
      clear h2 hn
      go_enter Try.func5, Try.ntmps5
      go_wp2
      go_ret
      exact ⟨rfl, Below.refl _ _⟩
  · have h2 : 1048576 < s.size := by omega
    clear h hn
    go_enter Try.func5, Try.ntmps5
    go_wp2
    go_ret
    exact ⟨rfl, Below.refl _ _⟩
end Go.Proofs.Ytdeahcejbdcmpaa
