/- Merged: LkX. -/
import Derived.Test.YtocpfpahobejhaaGreatDoorLL20
import Derived.Test.YtocpfpahobejhaaGreatDoorLL34
import Derived.Test.YtocpfpahobejhaaGreatDoorLL15
namespace Go.Proofs.YtocpfpahobejhaaGreatDoor
open Go.RowKit

set_option maxRecDepth 100000 in
set_option maxHeartbeats 4000000 in
theorem lawLookD {w : World} {p : Option Addr} {n c : Nat} {bs : List Int} (hl : bs.length = n) (hn : n ≤ 9223372036854775807) (hz : ∀ z ∈ bs, 0 ≤ z ∧ z ≤ 255) (hp : ∀ g o s, p = some ⟨g, o, s⟩ → n = 0 ∨ g < w.heap.size) (hv : Vals w p (u8s bs)) (hc : n ≤ c) :
    Calls Tryz.prog 10 #[.slice p n c] w fun e w' => e = .returned (.bool true) ∧ Below w.heap.size w w' := by
  by_cases h : n ≤ 1048576
  · have HD := hid (drawLook_any hl (by omega) hz hp hv hc)
    clear hl hz hp hv
    go_enter Tryz.func10, Tryz.ntmps10
    go_wp2_with fail
    go_at_call 35
    refine HD.out.mono ?_
    rintro e w1 ⟨ns, ts, p1, p2, n1, m1, c1, d1, s, rfl, hn1, hm1, hn5, hm5, hv1, hv2, hs1, hs2, hs, hb1⟩
    have HB1 := hid hb1
    have HV1 := hid hv1
    have HV2 := hid hv2
    have HN := hid hn1
    have HM := hid hm1
    have HB := hid (fun W (hk : Kept w1 W) => implEnvLook_any ns ts s p1 p2 n1 m1 c1 d1 W HN.out HM.out (by omega) (by omega) (HV1.out.kept hk) (HV2.out.kept hk) (fun s h => by have := hs1 s h; omega) (fun s h => by have := hs2 s h; omega))
    have HA := hid (fun W (hk : Kept w1 W) => specEnvLook_any ns ts s p1 p2 n1 m1 c1 d1 W HN.out HM.out (by omega) (by omega) (HV1.out.kept hk) (HV2.out.kept hk) (fun s h => by have := hs1 s h; omega) (fun s h => by have := hs2 s h; omega))
    have HT := hid (fun W (hk : Kept w1 W) => implTermType_any ns ts s (by omega) p1 p2 n1 m1 c1 d1 W HN.out HM.out (by omega) (by omega) (HV1.out.kept hk) (HV2.out.kept hk) (fun s h => by have := hs1 s h; omega) (fun s h => by have := hs2 s h; omega))
    have hlk := @lk_facts ns ts s
    obtain ⟨X, hX⟩ : ∃ X, lkT ns ts s = X := ⟨_, rfl⟩
    have HB2 := hid (fun W hk => (show Calls Tryz.prog 36 #[.slice p1 n1 c1, .slice p2 m1 d1, .string s] W fun e w' => e = .returned (.tuple #[.string X, .bool (decide (X.size ≠ 0))]) ∧ Below W.heap.size W w' from by have h1 := HB.out W hk; unfold LookPost at h1; rw [hX] at h1; exact h1))
    have HA2 := hid (fun W hk => (show Calls Tryz.prog 37 #[.slice p1 n1 c1, .slice p2 m1 d1, .string s] W fun e w' => e = .returned (.tuple #[.string X, .bool (decide (X.size ≠ 0))]) ∧ Below W.heap.size W w' from by have h1 := HA.out W hk; unfold LookPost at h1; rw [hX] at h1; exact h1))
    rw [hX] at hlk
    have hq : (!X.toList == X.toList) = false := by simp
    have hq2 : (X.toList == X.toList) = true := by simp
    clear hb1 hv1 hv2 hn1 hm1 hs1 hs2 HA HB hX
    obtain ⟨D, hD⟩ : ∃ D, decide (X.size ≠ 0) = D := ⟨_, rfl⟩
    rw [hD] at HA2 HB2 hlk
    clear hD
    cases D with
    | false =>
      clear hlk
      go_wp2_with fail
      go_at_call 36
      refine (HB2.out _ (Kept.refl _)).mono ?_
      rintro e w2 ⟨rfl, hb2⟩
      have HC2 := hid hb2
      clear hb2
      go_wp2_with fail
      go_at_call 37
      refine (HA2.out _ (Kept.of_below HC2.out (Nat.le_refl _))).mono ?_
      rintro e w3 ⟨rfl, hb3⟩
      have HC3 := hid (HC2.out.trans (hb3.mono HC2.out.size))
      clear hb3
      go_wp2_with fail
      go_ret
      exact ⟨rfl, HB1.out.trans (HC3.out.mono HB1.out.size)⟩
    | true =>
      obtain ⟨ty, hty, htx, hval, hrd⟩ := hlk rfl
      have hXs : X.size ≤ 400000000 := by
        rw [← htx, text_size]
        have h1 := ty_write_len ty
        have h2 := (readTy_good hrd).2
        omega
      have HT2 := hid (fun W hk => (show Calls Tryz.prog 38 #[.slice p1 n1 c1, .slice p2 m1 d1, .string s] W fun e w' => e = .returned (.tuple #[.string X, .bool true]) ∧ Below W.heap.size W w' from by
        have h1 := HT.out W hk
        unfold TypPost at h1
        rw [hty] at h1
        rw [← htx]; exact h1))
      have HK := hid (fun W => (show Calls Tryz.prog 39 #[.string X] W fun e w' => e = .returned (.string ty.kindS) ∧ Below W.heap.size W w' from by
        have h1 := implTypeKind_any X hXs W
        rw [hrd] at h1; exact h1))
      have hks : (ty.kindS.toList == [118, 97, 108, 117, 101]) = true := by rw [kindS_toList, Ty.kindL, if_pos hval]; rfl
      obtain ⟨KS, hKS⟩ : ∃ K, ty.kindS = K := ⟨_, rfl⟩
      rw [hKS] at HK hks
      clear hlk hty htx hval hrd hKS HT
      go_wp2_with fail
      go_at_call 36
      refine (HB2.out _ (Kept.refl _)).mono ?_
      rintro e w2 ⟨rfl, hb2⟩
      have HC2 := hid hb2
      clear hb2
      go_wp2_with fail
      go_at_call 37
      refine (HA2.out _ (Kept.of_below HC2.out (Nat.le_refl _))).mono ?_
      rintro e w3 ⟨rfl, hb3⟩
      have HC3 := hid (HC2.out.trans (hb3.mono HC2.out.size))
      clear hb3
      go_wp2_with fail
      go_at_call 38
      refine (HT2.out _ (Kept.of_below HC3.out (Nat.le_refl _))).mono ?_
      rintro e w4 ⟨rfl, hb4⟩
      have HC4 := hid (HC3.out.trans (hb4.mono HC3.out.size))
      clear hb4
      go_wp2_with fail
      go_at_call 39
      refine (HK.out _).mono ?_
      rintro e w5 ⟨rfl, hb5⟩
      have HC5 := hid (HC4.out.trans (hb5.mono HC4.out.size))
      clear hb5
      go_wp2_with fail
      go_ret
      exact ⟨rfl, HB1.out.trans (HC5.out.mono HB1.out.size)⟩
  · have h2 : 1048576 < n := by omega
    clear h hl hz hp hv
    go_enter Tryz.func10, Tryz.ntmps10
    go_wp2
    go_ret
    exact ⟨rfl, Below.refl _ _⟩
end Go.Proofs.YtocpfpahobejhaaGreatDoor
