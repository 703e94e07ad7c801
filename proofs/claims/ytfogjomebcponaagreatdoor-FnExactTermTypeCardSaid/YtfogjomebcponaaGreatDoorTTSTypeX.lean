/- Merged: TypeX. -/
import Derived.Test.YtfogjomebcponaaGreatDoorTT44
import Derived.Test.YtfogjomebcponaaGreatDoorTTSStrS
namespace Go.Proofs.YtfogjomebcponaaGreatDoor
open Go.RowKit

set_option maxRecDepth 100000 in
set_option maxHeartbeats 4000000 in
theorem lawTermType (ns : List ByteArray) (p : Option Addr) (n c : Nat) (ts : List ByteArray) (q : Option Addr) (m d : Nat) (s : ByteArray) (hsz : s.size ≤ 9223372036854775807) (w : World) (hn : ns.length = n) (hnb : n ≤ 9223372036854775807) (hv : Vals w p (ns.map Value.string)) (hns : ∀ s ∈ ns, s.size ≤ 9223372036854775807) (hm : ts.length = m) (hmb : m ≤ 9223372036854775807) (hu : Vals w q (ts.map Value.string)) (hts : ∀ s ∈ ts, s.size ≤ 9223372036854775807) :
    Calls Tryz.prog 3 #[.slice p n c, .slice q m d, .string s] w fun e w' => e = .returned (.bool true) ∧ Below w.heap.size w w' := by
  have HN := hid hn
  have HM := hid hm
  have HV := hid hv
  have HU := hid hu
  clear hn hm hv hu
  by_cases hsz2 : s.size ≤ 1048576
  · go_enter Tryz.func3, Tryz.ntmps3
    go_wp2_with fail
    go_at_call 8
    refine (szStringS_any ns p n c 1048576 w HN.out hnb (Nat.le_refl _) HV.out hns).mono ?_
    rintro e w1 ⟨h, rfl⟩
    rcases h with rfl | ⟨left, hl, hnl, hns2, rfl⟩
    · go_wp2_with fail
      go_ret
      exact ⟨rfl, Below.refl _ _⟩
    go_wp2_with fail
    go_at_call 8
    refine (szStringS_any ts q m d left w HM.out hmb hl HU.out hts).mono ?_
    rintro e w1 ⟨h, rfl⟩
    rcases h with rfl | ⟨left2, hl2, hml, hts2, rfl⟩
    · go_wp2_with fail
      go_ret
      exact ⟨rfl, Below.refl _ _⟩
    have hn2 : n ≤ 1048576 := by rw [← HN.out]; exact hnl
    have hm2 : m ≤ 1048576 := by rw [← HM.out]; omega
    have hns2 : ∀ s ∈ ns, s.size ≤ 400000000 := fun s h => by have := hns2 s h; omega
    have hts2 : ∀ s ∈ ts, s.size ≤ 400000000 := fun s h => by have := hts2 s h; omega
    have hss : s.size ≤ 400000000 := by omega
    have HA := hid (fun W (g h n m c d : Nat) hn hm hnb hmb hp hq => specTermType_any ns ts s hss g h n m c d W hn hm hnb hmb hp hq hns2 hts2)
    have HB := hid (fun W p q n m c d hn hm hnb hmb hp hq => implTermType_any ns ts s hss p q n m c d W hn hm hnb hmb hp hq hns2 hts2)
    unfold TypPost at HA HB
    generalize (typOf ns ts s).isSome = r1 at HA HB
    generalize txtO (typOf ns ts s) = r0 at HA HB
    have q0 : (r0.toList == r0.toList) = true := by simp
    have q0b : (!r0.toList == r0.toList) = false := by simp
    have q1 : (r1 != r1) = false := by simp
    clear hns hts hnl hml hl hl2 hns2 hts2
    go_wp2_with fail
    go_at_call 10
    refine (toStringS_any ns p n c _ HN.out (by omega) (HV.out.kept (Kept.refl _))).mono ?_
    rintro e w1 ⟨g1, rfl, ho1, hb1⟩
    have V1 := hid (vals_own ho1)
    have L1 := hid (own_lt ho1 g1 0 rfl).2
    have B1 := hid hb1
    have H1 := hid hb1
    clear hb1
    clear ho1
    go_wp2_with fail
    go_at_call 10
    refine (toStringS_any ts q m d _ HM.out (by omega) (HU.out.kept (Kept.of_below B1.out (Nat.le_refl _)))).mono ?_
    rintro e w2 ⟨g2, rfl, ho2, hb2⟩
    have V2 := hid (vals_own ho2)
    have L2 := hid (own_lt ho2 g2 0 rfl).2
    have B2 := hid (B1.out.trans (hb2.mono B1.out.size))
    have H2 := hid hb2
    clear hb2
    clear ho2
    go_wp2_with fail
    go_at_call 9
    refine (HA.out _ _ _ _ _ _ _ HN.out HM.out (by omega) (by omega) (V1.out.kept (Kept.of_below H2.out (Nat.le_refl _))) V2.out).mono ?_
    rintro e w3 ⟨rfl, hb3⟩
    have B3 := hid (B2.out.trans (hb3.mono B2.out.size))
    have H3 := hid hb3
    clear hb3
    go_wp2_with fail
    go_at_call 10
    refine (toStringS_any ns p n c _ HN.out (by omega) (HV.out.kept (Kept.of_below B3.out (Nat.le_refl _)))).mono ?_
    rintro e w4 ⟨g4, rfl, ho4, hb4⟩
    have V4 := hid (vals_own ho4)
    have L4 := hid (own_lt ho4 g4 0 rfl).2
    have B4 := hid (B3.out.trans (hb4.mono B3.out.size))
    have H4 := hid hb4
    clear hb4
    clear ho4
    go_wp2_with fail
    go_at_call 10
    refine (toStringS_any ts q m d _ HM.out (by omega) (HU.out.kept (Kept.of_below B4.out (Nat.le_refl _)))).mono ?_
    rintro e w5 ⟨g5, rfl, ho5, hb5⟩
    have V5 := hid (vals_own ho5)
    have L5 := hid (own_lt ho5 g5 0 rfl).2
    have B5 := hid (B4.out.trans (hb5.mono B4.out.size))
    have H5 := hid hb5
    clear hb5
    clear ho5
    have V4b := hid (V4.out.kept (Kept.of_below H5.out (Nat.le_refl _)))
    go_wp2_with fail
    go_at_call 11
    refine (HB.out _ _ _ _ _ _ _ HN.out HM.out (by omega) (by omega) V4b.out V5.out).mono ?_
    rintro e w6 ⟨rfl, hb6⟩
    have B6 := hid (B5.out.trans (hb6.mono B5.out.size))
    have H6 := hid hb6
    clear hb6
    go_wp2_with fail
    go_at_call 10
    refine (toStringS_any ns p n c _ HN.out (by omega) (HV.out.kept (Kept.of_below B6.out (Nat.le_refl _)))).mono ?_
    rintro e w7 ⟨g7, rfl, ho7, hb7⟩
    have V7 := hid (vals_own ho7)
    have L7 := hid (own_lt ho7 g7 0 rfl).2
    have B7 := hid (B6.out.trans (hb7.mono B6.out.size))
    have H7 := hid hb7
    clear hb7
    clear ho7
    have V4c := hid ((V4b.out.kept (Kept.of_below H6.out (Nat.le_refl _))).kept (Kept.of_below H7.out (Nat.le_refl _)))
    go_wp2_with fail
    go_at_call 12
    refine (eqStrings_same ns _ _ _ _ _ _ HN.out (by omega) V4c.out V7.out).mono ?_
    rintro e w8 ⟨rfl, hb8⟩
    have B8 := hid (B7.out.trans (hb8.mono B7.out.size))
    have H8 := hid hb8
    clear hb8
    go_wp2_with fail
    go_at_call 10
    refine (toStringS_any ts q m d _ HM.out (by omega) (HU.out.kept (Kept.of_below B8.out (Nat.le_refl _)))).mono ?_
    rintro e w9 ⟨g9, rfl, ho9, hb9⟩
    have V9 := hid (vals_own ho9)
    have L9 := hid (own_lt ho9 g9 0 rfl).2
    have B9 := hid (B8.out.trans (hb9.mono B8.out.size))
    have H9 := hid hb9
    clear hb9
    clear ho9
    have V5c := hid ((((V5.out.kept (Kept.of_below H6.out (Nat.le_refl _))).kept (Kept.of_below H7.out (Nat.le_refl _))).kept (Kept.of_below H8.out (Nat.le_refl _))).kept (Kept.of_below H9.out (Nat.le_refl _)))
    go_wp2_with fail
    go_at_call 12
    refine (eqStrings_same ts _ _ _ _ _ _ HM.out (by omega) V5c.out V9.out).mono ?_
    rintro e w10 ⟨rfl, hb10⟩
    have B10 := hid (B9.out.trans (hb10.mono B9.out.size))
    have H10 := hid hb10
    clear hb10
    go_wp2_with fail
    go_ret
    exact ⟨rfl, B10.out⟩
  · have h2 : 1048576 < s.size := by omega
    clear hsz2 hns hts
    go_enter Tryz.func3, Tryz.ntmps3
    go_wp2
    go_ret
    exact ⟨rfl, Below.refl _ _⟩

end Go.Proofs.YtfogjomebcponaaGreatDoor
