/- Merged: LtTKids. -/
import Derived.Test.YthpcmglnooemaaaGreatDoorVA45
import Derived.Test.YthpcmglnooemaaaGreatDoorVA44
import Derived.Test.YthpcmglnooemaaaGreatDoorVASSizeXI
import Derived.Test.YthpcmglnooemaaaGreatDoorVA9
import Derived.Test.YthpcmglnooemaaaGreatDoorVA7
namespace Go.Proofs.YthpcmglnooemaaaGreatDoor
open Go.RowKit

set_option maxRecDepth 100000 in
set_option maxHeartbeats 4000000 in
theorem lawTermKidsD {w : World} {p : Option Addr} {n c : Nat} {bs : List Int} (hl : bs.length = n) (hn : n ≤ 9223372036854775807) (hz : ∀ z ∈ bs, 0 ≤ z ∧ z ≤ 255) (hp : ∀ g o s, p = some ⟨g, o, s⟩ → n = 0 ∨ g < w.heap.size) (hv : Vals w p (u8s bs)) (hc : n ≤ c) :
    Calls Tryz.prog 5 #[.slice p n c] w fun e w' => e = .returned (.bool true) ∧ Below w.heap.size w w' := by
  by_cases h : n ≤ 1048576
  · obtain ⟨S, hS⟩ : ∃ S : Nat, S = 60000000 := ⟨_, rfl⟩
    have HD := hid (drawTermKids_any hS hl (by omega) hz hp hv hc)
    clear hl hz hp hv
    go_enter Tryz.func5, Tryz.ntmps5
    go_wp2_with fail
    go_at_call 22
    refine HD.out.mono ?_
    rintro e w1 ⟨s, rfl, hs, hb1⟩
    have HB1 := hid hb1
    clear hb1
    have HB := hid (fun W => implTermKids_any s (by omega) W)
    have HA := hid (fun W => specTermKids_any s (by omega) W)
    cases hx : readTm s with
    | none =>
      have hk := kidsOf_none hx
      have HB' := hid (fun W => (HB.out W).mono fun e w' h => ll_of (l := []) (n := 0) (b := false) h (by rw [hk]; rfl) rfl (by rw [hk]; rfl))
      have HA' := hid (fun W => (HA.out W).mono fun e w' h => ll_of (l := []) (n := 0) (b := false) h (by rw [hk]; rfl) rfl (by rw [hk]; rfl))
      clear hx hk HA HB
      go_wp2_with fail
      go_at_call 15
      refine (HB'.out _).mono ?_
      rintro e w2 ⟨q2, d2, rfl, hsv2, hv2, hu2, hb2⟩
      have HB2 := hid (HB1.out.trans (hb2.mono HB1.out.size))
      clear hsv2 hv2 hu2
      clear hb2
      go_wp2_with fail
      go_at_call 23
      refine (HA'.out _).mono ?_
      rintro e w3 ⟨q3, d3, rfl, hsv3, hv3, hu3, hb3⟩
      have HB3 := hid (HB2.out.trans (hb3.mono HB2.out.size))
      clear hsv3 hv3 hu3
      clear hb3
      go_wp2_with fail
      go_at_call 21
      refine (sameTexts_same [] _ _ 0 _ _ _ rfl (by omega) (fun i v h => by simp at h) (fun i v h => by simp at h)).mono ?_
      rintro e w4 ⟨rfl, hb4⟩
      have HB4 := hid (HB3.out.trans (hb4.mono HB3.out.size))
      clear hb4
      go_wp2_with fail
      go_at_call 21
      refine (sameTexts_same [] _ _ 0 _ _ _ rfl (by omega) (fun i v h => by simp at h) (fun i v h => by simp at h)).mono ?_
      rintro e w5 ⟨rfl, hb5⟩
      have HB5 := hid (HB4.out.trans (hb5.mono HB4.out.size))
      clear hb5
      go_wp2_with fail
      go_ret
      exact ⟨rfl, HB5.out⟩
    | some m =>
      have hk := kidsOf_some hx
      obtain ⟨L, hL⟩ : ∃ L, m.ks = L := ⟨_, rfl⟩
      obtain ⟨k0, hk0⟩ : ∃ k0, L.length = k0 := ⟨_, rfl⟩
      have hk4 : k0 ≤ 4 := by rw [← hk0, ← hL]; exact lt_kids4 hx
      have hmt : (L.map Tm.txt).length = k0 := by rw [List.length_map]; exact hk0
      rw [hL] at hk
      have HB' := hid (fun W => (HB.out W).mono fun e w' h => ll_of (l := L.map Tm.txt) (n := k0) (b := true) h (by rw [hk]; rfl) hmt (by rw [hk]; rfl))
      have HA' := hid (fun W => (HA.out W).mono fun e w' h => ll_of (l := L.map Tm.txt) (n := k0) (b := true) h (by rw [hk]; rfl) hmt (by rw [hk]; rfl))
      clear hk HA HB
      obtain ⟨F, hF⟩ : ∃ F, dedB [] m.free = F := ⟨_, rfl⟩
      obtain ⟨fn, hfn⟩ : ∃ fn, F.length = fn := ⟨_, rfl⟩
      have hfr := freeOf_some hx
      rw [hF] at hfr
      have hfl : fn ≤ 1500 := by
        have h := free_bound s
        rw [hfr] at h
        simp at h; omega
      have HFR := hid (fun W => (implTermFree_any s (by omega) W).mono fun e w' h => ll_of (l := F) (n := fn) (b := true) h (by rw [hfr]; rfl) hfn (by rw [hfr]; rfl))
      obtain ⟨M, hM⟩ : ∃ M, m.size = M := ⟨_, rfl⟩
      have hms : M ≤ 1500 := by obtain ⟨_, _, _, _, h⟩ := readTm_inv hx; rw [← hM]; exact h
      have HSZ := hid (fun W => (show Calls Tryz.prog 20 #[.string s] W fun e w' => e = .returned (.int .i64 (M : Int)) ∧ Below W.heap.size W w' from by have h := implTermSize_any s (by omega) W; rw [sizeOf_some hx, hM] at h; exact h))
      have HKS := hid (fun (i : Nat) (k : Tm) (h : L[i]? = some k) W => (show Calls Tryz.prog 20 #[.string k.txt] W fun e w' => e = .returned (.int .i64 (k.size : Int)) ∧ Below W.heap.size W w' from by
        obtain ⟨k', hk'⟩ := lt_kid hx (hL ▸ List.mem_of_getElem? h)
        have h2 := implTermSize_any k.txt (by have := hk'.len; omega) W
        rw [sizeOf_some hk'.read, hk'.size] at h2; exact h2))
      have HKF := hid (fun (i : Nat) (k : Tm) (h : L[i]? = some k) W => (show Calls Tryz.prog 19 #[.string k.txt] W (LlPost (frOf k) (frOf k).length true W) from by
        obtain ⟨k', hk'⟩ := lt_kid hx (hL ▸ List.mem_of_getElem? h)
        refine (implTermFree_any k.txt (by have := hk'.len; omega) W).mono fun e w' h => ll_of h rfl rfl (by rw [freeOf_some hk'.read]; rfl)))
      have HKZ := hid (fun (i : Nat) (k : Tm) (h : L[i]? = some k) => (show (k.size : Int) < (M : Int) from by
        have h1 := kid_size (m := m) (k := k) (hL ▸ List.mem_of_getElem? h)
        omega))
      have HFA := hid (fun (x : ByteArray) (h : x ∈ F) => (show hasB (L.flatMap frOf) x.toList = true ∨ ((thOf s).toList == [110, 97, 109, 101]) = true from by
        rw [← hL]; exact frs_all hx (by rw [hF]; exact h)))
      have HHD := hid (fun W => implTermHead_any s (by omega) W)
      obtain ⟨H, hH⟩ : ∃ H, thOf s = H := ⟨_, rfl⟩
      rw [hH] at HHD HFA
      have HM := hid hk0
      have HMT := hid hmt
      have HFN := hid hfn
      obtain ⟨i0, hi0, hz0, hz1, hz2⟩ := info_parts Tryz.infoStr
      clear hx hL hk0 hmt hF hfn hfr hM hH
      go_wp2_with fail
      go_at_call 15
      refine (HB'.out _).mono ?_
      rintro e w2 ⟨q2, d2, rfl, hsv2, hv2, hu2, hb2⟩
      have HB2 := hid (HB1.out.trans (hb2.mono HB1.out.size))
      have HV2 := hid hv2
      have HU2 := hid hu2
      clear hsv2 hv2 hu2
      clear hb2
      go_wp2_with fail
      go_at_call 23
      refine (HA'.out _).mono ?_
      rintro e w3 ⟨q3, d3, rfl, hsv3, hv3, hu3, hb3⟩
      have HB3 := hid (HB2.out.trans (hb3.mono HB2.out.size))
      have HV3 := hid hv3
      have HV23 := hid (lw_vals HV2.out hb3 HU2.out)
      have HU23 := hid (fun b o h => Nat.lt_of_lt_of_le (HU2.out b o h) hb3.size)
      clear hsv3 hv3 hu3 hb3
      go_wp2_with fail
      go_at_call 21
      refine (sameTexts_same (L.map Tm.txt) _ _ k0 _ _ _ HMT.out (by omega) HV23.out HV3.out).mono ?_
      rintro e w4 ⟨rfl, hb4⟩
      have HB4 := hid (HB3.out.trans (hb4.mono HB3.out.size))
      have HV4 := hid (lw_vals HV23.out hb4 HU23.out)
      have HU4 := hid (fun b o h => Nat.lt_of_lt_of_le (HU23.out b o h) hb4.size)
      clear hb4
      go_wp2_with fail
      go_at_call 19
      refine (HFR.out _).mono ?_
      rintro e w5 ⟨q5, d5, rfl, hsv5, hv5, hu5, hb5⟩
      have HB5 := hid (HB4.out.trans (hb5.mono HB4.out.size))
      have HV5 := hid (lw_vals HV4.out hb5 HU4.out)
      have HU5 := hid (fun b o h => Nat.lt_of_lt_of_le (HU4.out b o h) hb5.size)
      have HF5 := hid hsv5
      have HFU5 := hid hu5
      clear hsv5 hv5 hu5 hb5
      go_wp2_with fail
      go_loopw [10, 11] (fun v u wr => ∃ (i k kc : Nat) (q : Option Addr), i ≤ k0 ∧ u = .int .i64 (i : Int) ∧ v = .slice q k kc ∧ k ≤ 1500 * i ∧ wr.ownsRow w5.heap.size 9 1 (.slice q k kc) k (((L.take i).flatMap frOf).map Value.string) ∧ Hid (Below w5.heap.size w5 wr)) (fun _ u _ => k0 - (intOf u).toNat)
      case atStart => exact ⟨0, 0, 0, some ⟨w5.heap.size, 0, none⟩, Nat.zero_le _, rfl, rfl, Nat.zero_le _, ⟨rfl, Or.inr ⟨w5.heap.size, 0, #[], rfl, Nat.le_refl _, heap_alloc_new w5 _, Nat.le_refl _, by decide, rfl, rfl⟩⟩, hid ((Below.refl _ _).alloc (Nat.le_refl _) _)⟩
      case round =>
        obtain ⟨i, k, kc, q, hi, rfl, rfl, hk5, hown, hbel⟩ := hrel
        have HOWN := hid hown
        have hz := hbel.out.size
        clear hown
        by_cases hlt : i < k0
        · obtain ⟨t, hti⟩ : ∃ t, L[i]? = some t := ⟨_, List.getElem?_eq_getElem (by rw [HM.out]; exact hlt)⟩
          obtain ⟨b2, o2, hbo, hcz⟩ := HV5.out i _ (lt_get hti)
          subst hbo
          have hcc := (hbel.out.cell (p := ⟨b2, o2 + i, none⟩) (HU5.out b2 o2 rfl)).trans hcz
          have HC := hid (fun W => HKF.out i t hti W)
          have HCS := hid (fun W => HKS.out i t hti W)
          have hls := HKZ.out i t hti
          have HFS := hid (frs_snoc L i t hti)
          have hfl2 := fr_len t
          obtain ⟨G, hG⟩ : ∃ G, frOf t = G := ⟨_, rfl⟩
          obtain ⟨gn, hgn⟩ : ∃ gn, G.length = gn := ⟨_, rfl⟩
          rw [hG, hgn] at HC hfl2
          rw [hG] at HFS
          have hbt := HU5.out b2 o2 rfl
          clear hti hcz hG
          go_wp2_with fail
          go_at_call 19
          refine (HC.out _).mono ?_
          rintro e w6 ⟨q6, d6, rfl, hsv6, hv6, hu6, hb6⟩
          have hcc6 := (hb6.cell (p := ⟨b2, o2 + i, none⟩) (by show b2 < wr.heap.size; omega)).trans hcc
          have HO6 := hid (ownsRow_under HOWN.out hb6)
          have HSV6 := hid hsv6
          have HB6 := hid (hbel.out.trans (hb6.mono hbel.out.size))
          have HU6 := hid hu6
          clear hsv6 hv6 hu6 hb6 hcc
          go_wp2_with fail
          go_at_call 20
          refine (HCS.out _).mono ?_
          rintro e w7 ⟨rfl, hb7⟩
          have HO7 := hid (ownsRow_under HO6.out hb7)
          have HSV7 := hid (HSV6.out.under hb7 HU6.out)
          have HU7 := hid (fun b o h => Nat.lt_of_lt_of_le (HU6.out b o h) hb7.size)
          have HB7 := hid (HB6.out.trans (hb7.mono HB6.out.size))
          clear hb7
          go_wp2_with fail
          go_at_call 20
          refine (HSZ.out _).mono ?_
          rintro e w8 ⟨rfl, hb8⟩
          have HO8 := hid (ownsRow_under HO7.out hb8)
          have HSV8 := hid (HSV7.out.under hb8 HU7.out)
          have HB8 := hid (HB7.out.trans (hb8.mono HB7.out.size))
          have hz8 := HB8.out.size
          clear hb8
          go_wp2_with (at_builtin; refine wpList_append_sv _ rfl _ _ 25 rfl w5.heap.size 9 i0 (.string ByteArray.empty) 16 Tryz.underlying25 hi0 hz0 hz1 hz2 rfl _ _ _ _ rfl HO8.out _ _ _ G rfl HSV8.out (by unfold maxLen; omega) (by omega) (by omega) ?_; intro q9 k9 w9 ho9 hg9; have HO9 := hid ho9; have HG9 := hid hg9; clear ho9 hg9)
          go_roundw
          case rel =>
            refine ⟨i + 1, k + gn, k9, q9, by omega, by go_num, rfl, by omega, ?_, ?_⟩
            · rw [HFS.out, List.map_append]; exact HO9.out
            · exact hid (HB8.out.grown HG9.out (by omega) (fun k e => (HO8.out.lt k e).1))
          case measure => simp [intOf]; omega
        · have hin : i = k0 := by omega
          subst hin
          have HTE := hid (show L.take i = L from List.take_of_length_le (by rw [HM.out]; omega))
          rw [HTE.out] at HOWN
          obtain ⟨A, hA⟩ : ∃ A, L.flatMap frOf = A := ⟨_, rfl⟩
          rw [hA] at HOWN HFA
          have HSA := hid (sv_own HOWN.out)
          have HSU := hid (fun g o h => (own_lt HOWN.out g o h).2)
          have HSF := hid (HF5.out.under hbel.out HFU5.out)
          have HFU := hid (fun g o h => Nat.lt_of_lt_of_le (HFU5.out g o h) hbel.out.size)
          have HBE := hid (HB5.out.trans (hbel.out.mono HB5.out.size))
          clear hbel hA HTE HOWN
          go_wp2_with fail
          go_loopw [14] (fun u wj => ∃ j : Nat, j ≤ fn ∧ u = .int .i64 (j : Int) ∧ Hid (Below wr.heap.size wr wj)) (fun u _ => fn - (intOf u).toNat)
          case atStart => exact ⟨0, Nat.zero_le _, rfl, hid (Below.refl _ _)⟩
          case round =>
            obtain ⟨j, hj, rfl, hbj⟩ := hrel
            by_cases hjt : j < fn
            · obtain ⟨x, hx⟩ : ∃ x, F[j]? = some x := ⟨_, List.getElem?_eq_getElem (by rw [HFN.out]; exact hjt)⟩
              have hfa := HFA.out x (List.mem_of_getElem? hx)
              have HSJ := hid (HSF.out.under hbj.out HFU.out)
              have HSAJ := hid (HSA.out.under hbj.out HSU.out)
              obtain ⟨g5, hg5, hcx⟩ := HSJ.out.2.2 j x hx
              subst hg5
              have HHT := hid (fun W h => hasText_any x A q k kc W h (by omega))
              clear hx
              cases hB : hasB A x.toList with
              | true =>
                rw [hB] at HHT
                clear hfa hB
                go_wp2_with fail
                go_at_call 24
                refine (HHT.out _ HSAJ.out).mono ?_
                rintro e w10 ⟨rfl, rfl⟩
                go_wp2_with fail
                go_roundw
                case rel => exact ⟨j + 1, by omega, by go_num, hbj⟩
                case measure => simp [intOf]; omega
              | false =>
                rw [hB] at HHT hfa
                have hhn : (H.toList == [110, 97, 109, 101]) = true := by
                  rcases hfa with h | h
                  · cases h
                  · exact h
                clear hfa hB
                go_wp2_with fail
                go_at_call 24
                refine (HHT.out _ HSAJ.out).mono ?_
                rintro e w10 ⟨rfl, rfl⟩
                go_wp2_with fail
                go_at_call 16
                refine (HHD.out _).mono ?_
                rintro e w11 ⟨rfl, hb11⟩
                go_wp2_with fail
                go_roundw
                case rel => exact ⟨j + 1, by omega, by go_num, hid (hbj.out.trans (hb11.mono hbj.out.size))⟩
                case measure => simp [intOf]; omega
            · have HBF := hid (HBE.out.trans (hbj.out.mono HBE.out.size))
              clear hbj
              go_wp2_with fail
              go_ret
              exact ⟨rfl, HBF.out⟩
  · have h2 : 1048576 < (n : Int) := by omega
    clear hl hz hp hv
    go_enter Tryz.func5, Tryz.ntmps5
    go_wp2_with fail
    go_ret
    exact ⟨rfl, Below.refl _ _⟩
end Go.Proofs.YthpcmglnooemaaaGreatDoor
