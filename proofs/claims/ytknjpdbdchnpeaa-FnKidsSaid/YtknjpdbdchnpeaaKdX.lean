/- FnKids: the law, walked. -/
import Derived.Test.YtknjpdbdchnpeaaDrwYKids
import Derived.Test.YtknjpdbdchnpeaaLwQ
import Derived.Test.YtknjpdbdchnpeaaSameT
import Derived.Test.YtknjpdbdchnpeaaKidsI
import Derived.Test.YtknjpdbdchnpeaaKidsS
import Derived.Test.YtknjpdbdchnpeaaHeadI
namespace Go.Proofs.Ytknjpdbdchnpeaa
open Go.RowKit

set_option maxRecDepth 100000 in
set_option maxHeartbeats 4000000 in
theorem lawKidsD {w : World} {p : Option Addr} {n c : Nat} {bs : List Int} (hl : bs.length = n) (hn : n ≤ 9223372036854775807) (hz : ∀ z ∈ bs, 0 ≤ z ∧ z ≤ 255) (hp : ∀ g o s, p = some ⟨g, o, s⟩ → n = 0 ∨ g < w.heap.size) (hv : Vals w p (u8s bs)) (hc : n ≤ c) :
    Calls Try.prog 5 #[.slice p n c] w fun e w' => e = .returned (.bool true) ∧ Below w.heap.size w w' := by
  by_cases h : n ≤ 1048576
  · have HD := hid (drawTypeKids_any hl (by omega) hz hp hv hc)
    clear hl hz hp hv
    go_enter Try.func5, Try.ntmps5
    go_wp2_with fail
    go_at_call 20
    refine HD.out.mono ?_
    rintro e w1 ⟨s, rfl, hs, hb1⟩
    have HB1 := hid hb1
    clear hb1
    have HB := hid (fun W => ((implTypeKids_any s (by omega) W).mono fun e w' h => lw_kids_post h))
    have HA := hid (fun W => ((specTypeKids_any s (by omega) W).mono fun e w' h => lw_kids_post h))
    have HH := hid (fun W => implTypeHead_any s (by omega) W)
    cases hx : readTy s with
    | none =>
      rw [hx] at HA HB
      simp only [kidsO, Option.isSome, List.length_nil] at HA HB
      clear hx
      go_wp2_with fail
      go_at_call 15
      refine (HB.out _).mono ?_
      rintro e w2 ⟨q2, d2, rfl, hv2, hu2, hb2⟩
      have HB2 := hid (HB1.out.trans (hb2.mono HB1.out.size))
      have HV2 := hid hv2
      have HU2 := hid hu2
      clear hv2 hu2
      go_wp2_with fail
      go_at_call 21
      refine (HA.out _).mono ?_
      rintro e w3 ⟨q3, d3, rfl, hv3, hu3, hb3⟩
      have HB3 := hid (HB2.out.trans (hb3.mono HB2.out.size))
      have HV3 := hid hv3
      have HU3 := hid hu3
      clear hv3 hu3
      go_wp2_with fail
      go_at_call 22
      refine (sameTexts_same ([]) _ _ 0 _ _ _ rfl (by omega) (lw_vals HV2.out hb3 HU2.out) HV3.out).mono ?_
      rintro e w4 ⟨rfl, hb4⟩
      have HB4 := hid (HB3.out.trans (hb4.mono HB3.out.size))
      go_wp2_with fail
      go_at_call 22
      refine (sameTexts_same ([]) _ _ 0 _ _ _ rfl (by omega) (fun i v h => by simp at h) (fun i v h => by simp at h)).mono ?_
      rintro e w5 ⟨rfl, hb5⟩
      have HB5 := hid (HB4.out.trans (hb5.mono HB4.out.size))
      clear hb5
      go_wp2_with fail
      go_ret
      exact ⟨rfl, HB5.out⟩
    | some ty =>
      have hwh := lw_whole hx
      rw [hx] at HA HB HH
      simp only [kidsO, Option.isSome] at HA HB
      have hk2 := lw_kids2 ty
      obtain ⟨L, hL⟩ : ∃ L, ty.kids = L := ⟨_, rfl⟩
      obtain ⟨m, hm⟩ : ∃ m, L.length = m := ⟨_, rfl⟩
      have HM := hid hm
      have HH2 := hid (fun W => (show Calls Try.prog 16 #[.string s] W fun e w' => e = .returned (.string ⟨#[ty.headB]⟩) ∧ Below W.heap.size W w' from HH.out W))
      obtain ⟨H, hH⟩ : ∃ H : ByteArray, H = ⟨#[ty.headB]⟩ := ⟨_, rfl⟩
      rw [← hH] at HH2 hwh
      rw [hL] at HA HB hk2 hwh
      rw [hm] at HA HB hk2
      have hmt : (L.map Ty.text).length = m := by rw [List.length_map]; exact hm
      have hksz : ∀ k ∈ L.map Ty.text, k.size ≤ 60 := by
        intro k hk
        obtain ⟨t, ht, rfl⟩ := List.mem_map.1 hk
        rw [← hL] at ht
        obtain ⟨i, hi, hit⟩ := List.mem_iff_getElem.1 ht
        exact lw_size hx (i := i) (by rw [List.getElem?_eq_getElem hi, hit])
      have HKS := hid hksz
      have hHs : H.size = 1 := by rw [hH]; rfl
      have hx0 : ((⟨#[40]⟩ : ByteArray) ++ H).size = 2 := by rw [ByteArray.size_append, hHs]; rfl
      have HTX := hid (fun i => txL_size ((⟨#[40]⟩ : ByteArray) ++ H) ((L.map Ty.text).take i) (fun k hk => hksz k (List.mem_of_mem_take hk)))
      have HX0 := hid hx0
      clear hx0 hksz
      have HMT := hid hmt
      clear hx hL hm HH hH hmt
      go_wp2_with fail
      go_at_call 15
      refine (HB.out _).mono ?_
      rintro e w2 ⟨q2, d2, rfl, hv2, hu2, hb2⟩
      have HB2 := hid (HB1.out.trans (hb2.mono HB1.out.size))
      have HV2 := hid hv2
      have HU2 := hid hu2
      clear hv2 hu2
      go_wp2_with fail
      go_at_call 21
      refine (HA.out _).mono ?_
      rintro e w3 ⟨q3, d3, rfl, hv3, hu3, hb3⟩
      have HB3 := hid (HB2.out.trans (hb3.mono HB2.out.size))
      have HV3 := hid hv3
      have HU3 := hid hu3
      clear hv3 hu3
      go_wp2_with fail
      go_at_call 22
      refine (sameTexts_same (L.map Ty.text) _ _ m _ _ _ HMT.out (by omega) (lw_vals HV2.out hb3 HU2.out) HV3.out).mono ?_
      rintro e w4 ⟨rfl, hb4⟩
      have HB4 := hid (HB3.out.trans (hb4.mono HB3.out.size))
      go_wp2_with fail
      go_at_call 16
      refine (HH2.out _).mono ?_
      rintro e w5 ⟨rfl, hb5⟩
      have HB5 := hid (HB4.out.trans (hb5.mono HB4.out.size))
      have HB25 := hid (show Below w2.heap.size w2 w5 from hb3.trans ((hb4.mono hb3.size).trans (hb5.mono (Nat.le_trans hb3.size hb4.size))))
      clear hb3 hb4 hb5
      go_wp2_with fail
      go_loopw [8, 9] (fun t u wr => ∃ i : Nat, i ≤ m ∧ u = .int .i64 (i : Int) ∧ t = .string (txL ((⟨#[40]⟩ : ByteArray) ++ H) ((L.map Ty.text).take i)) ∧ Hid (Below w5.heap.size w5 wr)) (fun _ u _ => m - (intOf u).toNat)
      case atStart => exact ⟨0, Nat.zero_le _, rfl, rfl, hid (Below.refl _ _)⟩
      case round =>
        obtain ⟨i, hi, rfl, rfl, hbel⟩ := hrel
        by_cases hlt : i < m
        · obtain ⟨k, hk⟩ : ∃ k, (L.map Ty.text)[i]? = some k := ⟨_, List.getElem?_eq_getElem (by rw [HMT.out]; exact hlt)⟩
          obtain ⟨b2, o2, hbo, hcz⟩ := HV2.out i (.string k) (by rw [List.getElem?_map, hk]; rfl)
          subst hbo
          have hts := List.take_add_one (l := L.map Ty.text) (i := i)
          rw [hk] at hts
          have HTS := hid (txL_snoc ((⟨#[40]⟩ : ByteArray) ++ H) k ((L.map Ty.text).take i))
          have HTK := hid hts
          have hksz := HKS.out k (List.mem_of_getElem? hk)
          have htsz : (txL ((⟨#[40]⟩ : ByteArray) ++ H) ((L.map Ty.text).take i)).size ≤ 200 := by have h1 := HTX.out i; rw [HX0.out, List.length_take] at h1; omega
          have hcc : wr.cell? ⟨b2, o2 + i, none⟩ = some (.string k) := ((hbel.out.cell (p := ⟨b2, o2 + i, none⟩) (by have h2 := HU2.out b2 o2 rfl; have h5 := HB25.out.size; show b2 < w5.heap.size; omega)).trans ((HB25.out.cell (p := ⟨b2, o2 + i, none⟩) (HU2.out b2 o2 rfl)).trans hcz))
          have d1 : (i : Int) < (m : Int) := by omega
          clear hk hcz hts
          go_wp2_with fail
          go_roundw
          case rel => exact ⟨i + 1, by omega, by go_num, by rw [HTK.out]; exact congrArg Value.string HTS.out.symm, hbel⟩
          case measure => simp [intOf]; omega
        · have hin : i = m := by omega
          subst hin
          have htk : (L.map Ty.text).take i = L.map Ty.text := by rw [List.take_of_length_le]; rw [HMT.out]; exact Nat.le_refl _
          rw [htk]
          have HBe := hid (HB5.out.trans (hbel.out.mono HB5.out.size))
          have htsz : (txL ((⟨#[40]⟩ : ByteArray) ++ H) (L.map Ty.text)).size ≤ 200 := by have h1 := HTX.out i; rw [htk, HX0.out, HMT.out] at h1; omega
          obtain ⟨X, hX⟩ : ∃ X, txL ((⟨#[40]⟩ : ByteArray) ++ H) (L.map Ty.text) = X := ⟨_, rfl⟩
          rw [hX] at hwh htsz ⊢
          rcases hwh with h1 | ⟨h1, h2⟩
          all_goals
            go_wp2_with fail
            go_ret
            exact ⟨rfl, HBe.out⟩

  · have h2 : 1048576 < n := by omega
    clear h hl hz hp hv
    go_enter Try.func5, Try.ntmps5
    go_wp2
    go_ret
    exact ⟨rfl, Below.refl _ _⟩
end Go.Proofs.Ytknjpdbdchnpeaa
