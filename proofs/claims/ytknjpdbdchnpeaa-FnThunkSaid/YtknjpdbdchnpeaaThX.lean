/- FnThunk: the law, walked. -/
import Derived.Test.YtknjpdbdchnpeaaDrwYThunk
import Derived.Test.YtknjpdbdchnpeaaLwQ
import Derived.Test.YtknjpdbdchnpeaaSameT
import Derived.Test.YtknjpdbdchnpeaaKidsI
import Derived.Test.YtknjpdbdchnpeaaKindI
namespace Go.Proofs.Ytknjpdbdchnpeaa
open Go.RowKit

set_option maxRecDepth 100000 in
set_option maxHeartbeats 4000000 in
theorem lawThunkD {w : World} {p : Option Addr} {n c : Nat} {bs : List Int} (hl : bs.length = n) (hn : n ≤ 9223372036854775807) (hz : ∀ z ∈ bs, 0 ≤ z ∧ z ≤ 255) (hp : ∀ g o s, p = some ⟨g, o, s⟩ → n = 0 ∨ g < w.heap.size) (hv : Vals w p (u8s bs)) (hc : n ≤ c) :
    Calls Try.prog 11 #[.slice p n c] w fun e w' => e = .returned (.bool true) ∧ Below w.heap.size w w' := by
  by_cases h : n ≤ 1048576
  · have HD := hid (drawTypeThunk_any hl (by omega) hz hp hv hc)
    clear hl hz hp hv
    go_enter Try.func11, Try.ntmps11
    go_wp2_with fail
    go_at_call 39
    refine HD.out.mono ?_
    rintro e w1 ⟨s, rfl, hs, hb1⟩
    have HB1 := hid hb1
    clear hb1
    have HB := hid (fun W => implTypeThunk_any s (by omega) W)
    have HA := hid (fun W => specTypeThunk_any s (by omega) W)
    have hth := lw_thunkR s
    obtain ⟨X, hX⟩ : ∃ X, thunkS s = X := ⟨_, rfl⟩
    rcases hth with ⟨ty, hx, hv, ht, hst, hr⟩ | hr
    · rw [hX] at ht hr
      rw [hr] at HA HB
      have hXs : X.size ≤ 64 := by rw [← hX, thunkS_size]; omega
      have hq : (!X.toList == X.toList) = false := by simp
      have hq2 : (X.toList == X.toList) = true := by simp
      have HKD := hid (fun W => ((implTypeKids_any X (by omega) W).mono fun e w' h => lw_kids_post h))
      have HKK := hid (fun W => (show Calls Try.prog 13 #[.string X] W fun e w' => e = .returned (.string (Ty.thunk ty).kindS) ∧ Below W.heap.size W w' from by
        have h1 := implTypeKind_any X (by omega) W
        rw [ht] at h1; exact h1))
      have HPL := hid (fun W => (show Calls Try.prog 24 #[.string X] W fun e w' => e = .returned (.bool false) ∧ Below W.heap.size W w' from by
        have h1 := implTypePlain_any X (by omega) W
        have h2 : plainR X = false := by rw [plainR, ht]; rfl
        rw [h2] at h1; exact h1))
      rw [ht] at HKD
      have HKD2 := hid (fun W => (show Calls Try.prog 15 #[.string X] W (KdPost [ty] 1 true W) from HKD.out W))
      have hks : ((Ty.thunk ty).kindS.toList == [118, 97, 108, 117, 101]) = true := by rw [kindS_toList]; rfl
      obtain ⟨KS, hKS⟩ : ∃ K, (Ty.thunk ty).kindS = K := ⟨_, rfl⟩
      rw [hKS] at HKK hks
      have HST := hid hst
      clear hx ht hr HKD hX hKS hst
      go_wp2_with fail
      go_at_call 17
      refine (HB.out _).mono ?_
      rintro e w2 ⟨rfl, hb2⟩
      have HB2 := hid (HB1.out.trans (hb2.mono HB1.out.size))
      clear hb2
      go_wp2_with fail
      go_at_call 40
      refine (HA.out _).mono ?_
      rintro e w3 ⟨rfl, hb3⟩
      have HB3 := hid (HB2.out.trans (hb3.mono HB2.out.size))
      clear hb3
      go_wp2_with fail
      go_at_call 15
      refine (HKD2.out _).mono ?_
      rintro e w4 ⟨q, d, rfl, hv4, hu4, hb4⟩
      have HB4 := hid (HB3.out.trans (hb4.mono HB3.out.size))
      have HV4 := hid hv4
      have HU4 := hid hu4
      clear hv4 hu4
      clear hb4
      go_wp2_with fail
      go_at_call 22
      refine (sameTexts_same [s] _ _ 1 _ _ _ rfl (by decide) ?_ ?_).mono ?_
      · have h4 := lw_vals HV4.out ((Below.refl w4.heap.size w4).alloc (Nat.le_refl _) (.cells #[.string s] 9)) HU4.out
        simp only [List.map_cons, List.map_nil] at h4 ⊢
        rw [← HST.out] at h4
        exact h4
      · exact lw_lit _ _ _
      rintro e w5 ⟨rfl, hb5⟩
      have HB5 := hid ((HB4.out.alloc HB4.out.size _).trans (hb5.mono (by have := HB4.out.size; simp; omega)))
      clear hb5
      go_wp2_with fail
      go_at_call 13
      refine (HKK.out _).mono ?_
      rintro e w6 ⟨rfl, hb6⟩
      have HB6 := hid (HB5.out.trans (hb6.mono HB5.out.size))
      clear hb6
      go_wp2_with fail
      go_at_call 24
      refine (HPL.out _).mono ?_
      rintro e w7 ⟨rfl, hb7⟩
      have HB7 := hid (HB6.out.trans (hb7.mono HB6.out.size))
      clear hb7
      go_wp2_with fail
      go_ret
      exact ⟨rfl, HB7.out⟩
    · rw [hr] at HA HB
      clear hr
      have hq : (!(ByteArray.empty).toList == (ByteArray.empty).toList) = false := by simp
      go_wp2_with fail
      go_at_call 17
      refine (HB.out _).mono ?_
      rintro e w2 ⟨rfl, hb2⟩
      have HB2 := hid (HB1.out.trans (hb2.mono HB1.out.size))
      clear hb2
      go_wp2_with fail
      go_at_call 40
      refine (HA.out _).mono ?_
      rintro e w3 ⟨rfl, hb3⟩
      have HB3 := hid (HB2.out.trans (hb3.mono HB2.out.size))
      clear hb3
      go_wp2_with fail
      go_ret
      exact ⟨rfl, HB3.out⟩

  · have h2 : 1048576 < n := by omega
    clear h hl hz hp hv
    go_enter Try.func11, Try.ntmps11
    go_wp2
    go_ret
    exact ⟨rfl, Below.refl _ _⟩
end Go.Proofs.Ytknjpdbdchnpeaa
