/- FnSort: the law, walked. -/
import Derived.Test.YthpcmglnooemaaaGreatDoorUNDrwYSort
import Derived.Test.YthpcmglnooemaaaGreatDoorUM46
import Derived.Test.YthpcmglnooemaaaGreatDoorUM30
import Derived.Test.YthpcmglnooemaaaGreatDoorUM32
namespace Go.Proofs.YthpcmglnooemaaaGreatDoor
open Go.RowKit

set_option maxRecDepth 100000 in
set_option maxHeartbeats 4000000 in
theorem lawSortD {w : World} {p : Option Addr} {n c : Nat} {bs : List Int} (hl : bs.length = n) (hn : n ≤ 9223372036854775807) (hz : ∀ z ∈ bs, 0 ≤ z ∧ z ≤ 255) (hp : ∀ g o s, p = some ⟨g, o, s⟩ → n = 0 ∨ g < w.heap.size) (hv : Vals w p (u8s bs)) (hc : n ≤ c) :
    Calls Tryz.prog 3 #[.slice p n c] w fun e w' => e = .returned (.bool true) ∧ Below w.heap.size w w' := by
  by_cases h : n ≤ 1048576
  · obtain ⟨S, hS⟩ : ∃ S : Nat, S = 60000000 := ⟨_, rfl⟩
    have HD := hid (drawTermSort_any hS hl (by omega) hz hp hv hc)
    clear hl hz hp hv
    go_enter Tryz.func3, Tryz.ntmps3
    go_wp2_with fail
    go_at_call 12
    refine HD.out.mono ?_
    rintro e w1 ⟨s, rfl, hs, hb1⟩
    have HB1 := hid hb1
    clear hb1
    have HB := hid (fun W => implTermSort_any s (by omega) W)
    have HA := hid (fun W => specTermSort_any s (by omega) W)
    obtain ⟨K, hK⟩ : ∃ K, sortOf s = K := ⟨_, rfl⟩
    rw [hK] at HA HB
    have hq : (!K.toList == K.toList) = false := by simp
    have hq2 : (K.toList == K.toList) = true := by simp
    cases hx : readTm s with
    | none =>
      have he : K.toList.isEmpty = true := by rw [← hK, sortOf, hx]; exact isEmpty_of _ rfl
      clear hx hK
      go_wp2_with fail
      go_at_call 13
      refine (HB.out _).mono ?_
      rintro e w2 ⟨rfl, hb2⟩
      have HB2 := hid (HB1.out.trans (hb2.mono HB1.out.size))
      clear hb2
      go_wp2_with fail
      go_at_call 14
      refine (HA.out _).mono ?_
      rintro e w3 ⟨rfl, hb3⟩
      have HB3 := hid (HB2.out.trans (hb3.mono HB2.out.size))
      clear hb3
      go_wp2_with fail
      go_ret
      exact ⟨rfl, HB3.out⟩
    | some m =>
      obtain ⟨V, hV⟩ : ∃ V, m.isVal = V := ⟨_, rfl⟩
      have hKV : K = vS V := by rw [← hK, sortOf, hx, ← hV]; show srtS (some m.isVal) = _; cases m.isVal <;> rfl
      subst hKV
      have HKD := hid (fun W => (implTermKids_any s (by omega) W).mono fun e w' h => lt_kids_post hx h)
      have HKI := hid (fun (i : Nat) (k : Tm) (h : m.ks[i]? = some k) W => (show Calls Tryz.prog 13 #[.string k.txt] W fun e w' => (∃ Z : ByteArray, e = .returned (.string Z) ∧ Z.toList.isEmpty = false) ∧ Below W.heap.size W w' from by
        obtain ⟨k', hk'⟩ := lt_kid hx (List.mem_of_getElem? h)
        refine (implTermSort_any k.txt (by have := hk'.len; omega) W).mono ?_
        rintro e w' ⟨rfl, hb⟩
        exact ⟨⟨_, rfl, sort_ne hk'.read⟩, hb⟩))
      have HSR := hid (fun (u : ByteArray) (hu : u.size ≤ 400000000) W => implTermSort_any u hu W)
      have HHD := hid (fun W => (show Calls Tryz.prog 16 #[.string s] W fun e w' => (∃ Z : ByteArray, e = .returned (.string Z) ∧ Z.toList.isEmpty = false) ∧ Below W.heap.size W w' from by
        refine (implTermHead_any s (by omega) W).mono ?_
        rintro e w' ⟨rfl, hb⟩
        exact ⟨⟨_, rfl, thOf_ne hx⟩, hb⟩))
      obtain ⟨L, hL⟩ : ∃ L, m.ks = L := ⟨_, rfl⟩
      obtain ⟨k0, hk0⟩ : ∃ k0, L.length = k0 := ⟨_, rfl⟩
      have hk4 : k0 ≤ 4 := by rw [← hk0, ← hL]; exact lt_kids4 hx
      have HM := hid hk0
      rw [hL] at HKD HKI
      rw [hk0] at HKD
      have hve : (vS V).toList.isEmpty = false := by cases V <;> exact isEmpty_not _ (by decide)
      have hR := ret_sort s
      have hT := thunk_sort s
      have HRR := hid hR
      have HTT := hid hT
      clear hx hK hL hk0 hV hR hT
      go_wp2_with fail
      go_at_call 13
      refine (HB.out _).mono ?_
      rintro e w2 ⟨rfl, hb2⟩
      have HB2 := hid (HB1.out.trans (hb2.mono HB1.out.size))
      clear hb2
      go_wp2_with fail
      go_at_call 14
      refine (HA.out _).mono ?_
      rintro e w3 ⟨rfl, hb3⟩
      have HB3 := hid (HB2.out.trans (hb3.mono HB2.out.size))
      clear hb3
      go_wp2_with fail
      go_at_call 15
      refine (HKD.out _).mono ?_
      rintro e w4 ⟨q, d, rfl, hv4, hu4, hb4⟩
      have HB4 := hid (HB3.out.trans (hb4.mono HB3.out.size))
      have HV4 := hid hv4
      have HU4 := hid hu4
      clear hv4 hu4
      clear hb4
      go_wp2_with fail
      go_loopw [8] (fun u wr => ∃ i : Nat, i ≤ k0 ∧ u = .int .i64 (i : Int) ∧ Hid (Below w4.heap.size w4 wr)) (fun u _ => k0 - (intOf u).toNat)
      case atStart => exact ⟨0, Nat.zero_le _, rfl, hid (Below.refl _ _)⟩
      case round =>
        obtain ⟨i, hi, rfl, hbel⟩ := hrel
        by_cases hlt : i < k0
        · obtain ⟨k, hk⟩ : ∃ k, L[i]? = some k := ⟨_, List.getElem?_eq_getElem (by rw [HM.out]; exact hlt)⟩
          obtain ⟨b2, o2, hbo, hcz⟩ := HV4.out i _ (lt_get hk)
          subst hbo
          have HC := hid (fun W => HKI.out i k hk W)
          have hcc := (hbel.out.cell (p := ⟨b2, o2 + i, none⟩) (HU4.out b2 o2 rfl)).trans hcz
          clear hk hcz
          go_wp2_with fail
          go_at_call 13
          refine (HC.out _).mono ?_
          rintro e w5 ⟨⟨Z, rfl, hZ⟩, hb5⟩
          go_wp2_with fail
          go_roundw
          case rel => exact ⟨i + 1, by omega, by go_num, hid (hbel.out.trans (hb5.mono hbel.out.size))⟩
          case measure => simp [intOf]; omega
        · have hin : i = k0 := by omega
          subst hin
          have HBE := hid (HB4.out.trans (hbel.out.mono HB4.out.size))
          clear hbel HU4 HV4
          have hem : (ByteArray.empty : ByteArray).toList.isEmpty = true := isEmpty_of _ rfl
          have hsz1 : (({ data := #[40, 114, 101, 116, 117, 114, 110, 32] } : ByteArray) ++ s ++ ({ data := #[41] } : ByteArray)).size ≤ 400000000 := by simp only [ByteArray.size_append, bsz]; simp; omega
          have hsz2 : (({ data := #[40, 116, 104, 117, 110, 107, 32] } : ByteArray) ++ s ++ ({ data := #[41] } : ByteArray)).size ≤ 400000000 := by simp only [ByteArray.size_append, bsz]; simp; omega
          have HS1 := hid (fun W => HSR.out _ hsz1 W)
          have HS2 := hid (fun W => HSR.out _ hsz2 W)
          obtain ⟨R1, hR1⟩ : ∃ R, sortOf (({ data := #[40, 114, 101, 116, 117, 114, 110, 32] } : ByteArray) ++ s ++ ({ data := #[41] } : ByteArray)) = R := ⟨_, rfl⟩
          obtain ⟨R2, hR2⟩ : ∃ R, sortOf (({ data := #[40, 116, 104, 117, 110, 107, 32] } : ByteArray) ++ s ++ ({ data := #[41] } : ByteArray)) = R := ⟨_, rfl⟩
          have hr1 := HRR.out
          have hr2 := HTT.out
          rw [hR1] at HS1 hr1
          rw [hR2] at HS2 hr2
          have hvc : (strV.toList == [99, 111, 109, 112, 117, 116, 97, 116, 105, 111, 110]) = false := by rw [strV_toList]; rfl
          have hcc : (strC.toList == [99, 111, 109, 112, 117, 116, 97, 116, 105, 111, 110]) = true := by rw [strC_toList]; rfl
          have hcv := cv_ne
          have hvc2 := vc_ne
          have hce : strC.toList.isEmpty = false := isEmpty_not _ (by decide)
          have hvv : strV.toList.isEmpty = false := isEmpty_not _ (by decide)
          clear hR1 hR2 hsz1 hsz2 hve HKI HRR HTT
          cases V with
          | true =>
            rw [show vS true = strV from rfl] at *
            go_wp2_with fail
            go_at_call 13
            refine (HS1.out _).mono ?_
            rintro e w6 ⟨rfl, hb6⟩
            have HB6 := hid (HBE.out.trans (hb6.mono HBE.out.size))
            clear hb6
            rcases hr1 with rfl | rfl
            all_goals
              go_wp2_with fail
              go_at_call 16
              refine (HHD.out _).mono ?_
              rintro e w7 ⟨⟨Z, rfl, hZ⟩, hb7⟩
              have HB7 := hid (HB6.out.trans (hb7.mono HB6.out.size))
              clear hb7
              go_wp2_with fail
              go_ret
              exact ⟨rfl, HB7.out⟩
          | false =>
            rw [show vS false = strC from rfl] at *
            go_wp2_with fail
            go_at_call 13
            refine (HS1.out _).mono ?_
            rintro e w6 ⟨rfl, hb6⟩
            have HB6 := hid (HBE.out.trans (hb6.mono HBE.out.size))
            clear hb6
            go_wp2_with fail
            go_at_call 13
            refine (HS2.out _).mono ?_
            rintro e w8 ⟨rfl, hb8⟩
            have HB8 := hid (HB6.out.trans (hb8.mono HB6.out.size))
            clear hb8
            rcases hr2 with rfl | rfl
            all_goals
              go_wp2_with fail
              go_at_call 16
              refine (HHD.out _).mono ?_
              rintro e w7 ⟨⟨Z, rfl, hZ⟩, hb7⟩
              have HB7 := hid (HB8.out.trans (hb7.mono HB8.out.size))
              clear hb7
              go_wp2_with fail
              go_ret
              exact ⟨rfl, HB7.out⟩
  · have h2 : 1048576 < (n : Int) := by omega
    clear hl hz hp hv
    go_enter Tryz.func3, Tryz.ntmps3
    go_wp2_with fail
    go_ret
    exact ⟨rfl, Below.refl _ _⟩
end Go.Proofs.YthpcmglnooemaaaGreatDoor
