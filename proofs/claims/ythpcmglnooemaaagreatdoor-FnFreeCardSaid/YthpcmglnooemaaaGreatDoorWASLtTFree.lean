/- Merged: LtTFree. -/
import Derived.Deep.RegionHeld3
import Derived.Test.YthpcmglnooemaaaGreatDoorWA46
import Derived.Test.YthpcmglnooemaaaGreatDoorWA45
import Derived.Test.YthpcmglnooemaaaGreatDoorWAr
import Derived.Test.YthpcmglnooemaaaGreatDoorWA7
namespace Go.Proofs.YthpcmglnooemaaaGreatDoor
open Go.RowKit

set_option maxRecDepth 100000 in
set_option maxHeartbeats 4000000 in
theorem lawFreeD {w : World} {p : Option Addr} {n c : Nat} {bs : List Int} (hl : bs.length = n) (hn : n ≤ 9223372036854775807) (hz : ∀ z ∈ bs, 0 ≤ z ∧ z ≤ 255) (hp : ∀ g o s, p = some ⟨g, o, s⟩ → n = 0 ∨ g < w.heap.size) (hv : Vals w p (u8s bs)) (hc : n ≤ c) :
    Calls Tryz.prog 6 #[.slice p n c] w fun e w' => e = .returned (.bool true) ∧ Below w.heap.size w w' := by
  by_cases h : n ≤ 1048576
  · obtain ⟨S, hS⟩ : ∃ S : Nat, S = 60000000 := ⟨_, rfl⟩
    have HD := hid (drawTermFree_any hS hl (by omega) hz hp hv hc)
    clear hl hz hp hv
    go_enter Tryz.func6, Tryz.ntmps6
    go_wp2_with fail
    go_at_call 25
    refine HD.out.mono ?_
    rintro e w1 ⟨s, rfl, hs, hb1⟩
    have HB1 := hid hb1
    clear hb1
    have HB := hid (fun W => implTermFree_any s (by omega) W)
    have HA := hid (fun W => specTermFree_any s (by omega) W)
    cases hx : readTm s with
    | none =>
      have hk := freeOf_none hx
      have HB' := hid (fun W => (HB.out W).mono fun e w' h => ll_of (l := []) (n := 0) (b := false) h (by rw [hk]; rfl) rfl (by rw [hk]; rfl))
      have HA' := hid (fun W => (HA.out W).mono fun e w' h => ll_of (l := []) (n := 0) (b := false) h (by rw [hk]; rfl) rfl (by rw [hk]; rfl))
      clear hx hk HA HB
      go_wp2_with fail
      go_at_call 19
      refine (HB'.out _).mono ?_
      rintro e w2 ⟨q2, d2, rfl, hsv2, hv2, hu2, hb2⟩
      have HB2 := hid (HB1.out.trans (hb2.mono HB1.out.size))
      clear hsv2 hv2 hu2
      clear hb2
      go_wp2_with fail
      go_at_call 26
      refine (HA'.out _).mono ?_
      rintro e w3 ⟨q3, d3, rfl, hsv3, hv3, hu3, hb3⟩
      have HB3 := hid (HB2.out.trans (hb3.mono HB2.out.size))
      clear hsv3 hv3 hu3
      clear hb3
      go_wp2_with fail
      go_at_call 21
      refine (sameTexts_same [] _ _ 0 _ _ _ rfl (by omega) (fun i v h => by simp at h) (fun i v h => by simp at h)).mono ?_
      rintro e w4 ⟨rfl, hb4⟩
      have HB4 := hid (HB3.out.trans (hb4.mono HB3.out.size))
      clear hb4
      go_wp2_with fail
      go_at_call 21
      refine (sameTexts_same [] _ _ 0 _ _ _ rfl (by omega) (fun i v h => by simp at h) (fun i v h => by simp at h)).mono ?_
      rintro e w5 ⟨rfl, hb5⟩
      have HB5 := hid (HB4.out.trans (hb5.mono HB4.out.size))
      clear hb5
      go_wp2_with fail
      go_ret
      exact ⟨rfl, HB5.out⟩
    | some m =>
      have hk := freeOf_some hx
      obtain ⟨F, hF⟩ : ∃ F, dedB [] m.free = F := ⟨_, rfl⟩
      obtain ⟨fn, hfn⟩ : ∃ fn, F.length = fn := ⟨_, rfl⟩
      have hfl : fn ≤ 1500 := by
        have h := free_bound s
        rw [hk, hF] at h
        simp at h; omega
      have hfr := fr_ok hx F (by rw [← hF]; exact fr_names hx)
      have HST := hid (fun (i : Nat) (n : ByteArray) (h : F[i]? = some n) => (show nameB n.toList = true ∧ 1 ≤ usesOf s n ∧ hasB (F.take i) n.toList = false from by
        rw [← hF] at h ⊢; exact fr_step hx h))
      have HSH := hid (fun (i : Nat) (n : ByteArray) (h : F[i]? = some n) => (HST.out i n h).2.2)
      have HXS := hid (fun i (hi : i ≤ fn) => (hfr i (by omega)).read)
      have HPT := hid (fun (i : Nat) (n : ByteArray) (h : F[i]? = some n) W => (show Calls Tryz.prog 27 #[.string (mkT (frM m (F.take i))), .string n, .string ⟨#[48]⟩] W fun e w' => e = .returned (.tuple #[.string (mkT (frM m (F.take (i + 1)))), .bool true]) ∧ Below W.heap.size W w' from by
        have hi : i < F.length := (List.getElem?_eq_some_iff.1 h).1
        have hn := (HST.out i n h).1
        have h2 := implTermPut_any (mkT (frM m (F.take i))) n zB (by have := ((hfr i (by omega)).read).2; omega) (by have := (nameB_len hn).2; rw [Go.ByteArray.toList_eq] at this; have e : n.data.toList.length = n.size := rfl; omega) (by decide) W
        rw [((hfr i (by omega)).put hn).1, ← frM_snoc, show F.take i ++ [n] = F.take (i + 1) from by rw [List.take_add_one, h]; rfl] at h2
        exact h2))
      have HUS := hid (fun (i : Nat) (n : ByteArray) (h : F[i]? = some n) W => (show Calls Tryz.prog 28 #[.string s, .string n] W fun e w' => (∃ U : Int, e = .returned (.int .i64 U) ∧ 1 ≤ U) ∧ Below W.heap.size W w' from by
        have hn := (HST.out i n h).1
        refine (implTermUses_any s n (by omega) (by have := (nameB_len hn).2; rw [Go.ByteArray.toList_eq] at this; have e : n.data.toList.length = n.size := rfl; omega) W).mono ?_
        rintro e w' ⟨rfl, hb⟩
        exact ⟨⟨_, rfl, (HST.out i n h).2.1⟩, hb⟩))
      have HCL := hid (fun W => (show Calls Tryz.prog 29 #[.string (mkT (frM m F))] W fun e w' => e = .returned (.bool true) ∧ Below W.heap.size W w' from by
        have h := implTermClosed_any (mkT (frM m F)) (by have := (HXS.out fn (Nat.le_refl _)).2; rw [List.take_of_length_le (by omega)] at this; omega) W
        have h2 := fr_end hx
        rw [hF] at h2
        rw [h2] at h; exact h))
      have HX0 := hid (FrOk.start hx).2
      have HB' := hid (fun W => (HB.out W).mono fun e w' h => (show (∃ q c, e = .returned (.tuple #[.slice q fn c, .bool true]) ∧ SV w' q fn c F ∧ Vals w' q (F.map .string) ∧ (∀ g o, q = some ⟨g, o, none⟩ → g < w'.heap.size) ∧ fn ≤ c) ∧ Below W.heap.size W w' from by
        obtain ⟨⟨q, c, rfl, ho⟩, hb⟩ := h
        rw [hk, hF] at ho ⊢
        have e1 : ((some F).getD []).length = fn := hfn
        rw [e1] at ho ⊢
        exact ⟨⟨q, c, rfl, sv_own ho, vals_any ho, lw_under ho, own_cap ho⟩, hb⟩))
      have HA' := hid (fun W => (HA.out W).mono fun e w' h => ll_of (l := F) (n := fn) (b := true) h (by rw [hk, hF]; rfl) hfn (by rw [hk]; rfl))
      have HFN := hid hfn
      clear hx hk HA HB hF hfn hfr HST HXS
      go_wp2_with fail
      go_at_call 19
      refine (HB'.out _).mono ?_
      rintro e w2 ⟨⟨q2, d2, rfl, hsv2, hv2, hu2, hc2⟩, hb2⟩
      have HB2 := hid (HB1.out.trans (hb2.mono HB1.out.size))
      have HSV2 := hid hsv2
      have HV2 := hid hv2
      have HU2 := hid hu2
      clear hsv2 hv2 hu2 hb2
      go_wp2_with fail
      go_at_call 26
      refine (HA'.out _).mono ?_
      rintro e w3 ⟨q3, d3, rfl, hsv3, hv3, hu3, hb3⟩
      have HB3 := hid (HB2.out.trans (hb3.mono HB2.out.size))
      have HV3 := hid hv3
      have HSV23 := hid (HSV2.out.under hb3 HU2.out)
      have HV23 := hid (lw_vals HV2.out hb3 HU2.out)
      have HU23 := hid (fun b o h => Nat.lt_of_lt_of_le (HU2.out b o h) hb3.size)
      clear hsv3 hv3 hu3 hb3
      go_wp2_with fail
      go_at_call 21
      refine (sameTexts_same F _ _ fn _ _ _ HFN.out (by omega) HV23.out HV3.out).mono ?_
      rintro e w4 ⟨rfl, hb4⟩
      have HB4 := hid (HB3.out.trans (hb4.mono HB3.out.size))
      have HSV4 := hid (HSV23.out.under hb4 HU23.out)
      have HU4 := hid (fun b o h => Nat.lt_of_lt_of_le (HU23.out b o h) hb4.size)
      clear hb4
      go_wp2_with fail
      go_loopw [8, 9] (fun v u wr => ∃ i : Nat, i ≤ fn ∧ u = .int .i64 (i : Int) ∧ v = .string (mkT (frM m (F.take i))) ∧ Hid (Below w4.heap.size w4 wr)) (fun _ u _ => fn - (intOf u).toNat)
      case atStart => exact ⟨0, Nat.zero_le _, rfl, by rw [List.take_zero]; exact congrArg Value.string HX0.out.symm, hid (Below.refl _ _)⟩
      case round =>
        obtain ⟨i, hi, rfl, rfl, hbel⟩ := hrel
        by_cases hlt : i < fn
        · obtain ⟨n, hn⟩ : ∃ n, F[i]? = some n := ⟨_, List.getElem?_eq_getElem (by rw [HFN.out]; exact hlt)⟩
          have HSVr := hid (HSV4.out.under hbel.out HU4.out)
          have HUr := hid (fun b o h => Nat.lt_of_lt_of_le (HU4.out b o h) hbel.out.size)
          obtain ⟨g, rfl, hcz⟩ := HSVr.out.2.2 i n hn
          have HP := hid (fun W => HPT.out i n hn W)
          have HU := hid (fun W => HUS.out i n hn W)
          have HHT := hid (fun W (h : SV W (some ⟨g, 0, none⟩) i d2 (F.take i)) => (show Calls Tryz.prog 24 #[.slice (some ⟨g, 0, none⟩) i d2, .string n] W fun e w' => e = .returned (.bool false) ∧ W = w' from by
            have h1 := hasText_any n (F.take i) _ i d2 W h (by omega)
            rw [HSH.out i n hn] at h1; exact h1))
          have hgl := HUr.out g 0 rfl
          have hid2 : (i : Int) ≤ (d2 : Int) := by omega
          obtain ⟨X, hX⟩ : ∃ X, mkT (frM m (F.take i)) = X := ⟨_, rfl⟩
          obtain ⟨Y, hY⟩ : ∃ Y, mkT (frM m (F.take (i + 1))) = Y := ⟨_, rfl⟩
          rw [hX, hY] at HP
          rw [hX]
          have HY := hid hY
          clear hn hX hY
          go_wp2_with fail
          go_at_call 27
          refine (HP.out _).mono ?_
          rintro e w5 ⟨rfl, hb5⟩
          have hc5 := (hb5.cell (p := ⟨g, i, none⟩) hgl).trans hcz
          have HSV5 := hid (HSVr.out.under hb5 HUr.out)
          have HU5 := hid (fun b o h => Nat.lt_of_lt_of_le (HUr.out b o h) hb5.size)
          have hgl5 := HU5.out g 0 rfl
          have HB5 := hid (hbel.out.trans (hb5.mono hbel.out.size))
          have hbd : Below w5.heap.size w5 w5.drew := (Below.refl _ _).drew
          have HC5d := hid ((hbd.cell (p := ⟨g, i, none⟩) hgl5).trans hc5)
          have HSV5d := hid (HSV5.out.under hbd HU5.out)
          have HB5d := hid (HB5.out.trans (hbd.mono HB5.out.size))
          have hgl5d : g < w5.drew.heap.size := Nat.lt_of_lt_of_le hgl5 hbd.size
          have HU5d := hid (fun b o h => Nat.lt_of_lt_of_le (HU5.out b o h) hbd.size)
          clear hb5 hcz hbd hc5
          go_wp2_with fail
          go_region_held3 (fun w' => w'.cell? ⟨g, i, none⟩ = some (.string n))
            (first | exact HC5d.out | exact HC6.out)
            (first
              | (have _ := HSV6
                 go_at_call 24
                 refine (HHT.out _ (sv_take HSV6.out hlt)).mono ?_
                 rintro e w7 ⟨rfl, rfl⟩)
              | (go_at_call 28
                 refine (HU.out _).mono ?_
                 rintro e w6 ⟨⟨U, rfl, hU⟩, hb6⟩
                 have hU2 : decide (U < 1) = false := decide_eq_false (by omega)
                 have HC6 := hid ((hb6.cell (p := ⟨g, i, none⟩) hgl5d).trans HC5d.out)
                 have HSV6 := hid (HSV5d.out.under hb6 HU5d.out)
                 have HB6 := hid (HB5d.out.trans (hb6.mono HB5d.out.size))
                 clear hb6))
          all_goals
            go_wp2_with fail
            go_roundw
            case rel => exact ⟨i + 1, by omega, by go_num, by rw [HY.out], HB6⟩
            case measure => simp [intOf]; omega
        · have hin : i = fn := by omega
          subst hin
          have HBE := hid (HB4.out.trans (hbel.out.mono HB4.out.size))
          have HTE := hid (show F.take i = F from List.take_of_length_le (by rw [HFN.out]; omega))
          rw [HTE.out]
          obtain ⟨X, hX⟩ : ∃ X, mkT (frM m F) = X := ⟨_, rfl⟩
          rw [hX] at HCL ⊢
          clear hbel hX
          go_wp2_with fail
          go_at_call 29
          refine (HCL.out _).mono ?_
          rintro e w5 ⟨rfl, hb5⟩
          have HB5 := hid (HBE.out.trans (hb5.mono HBE.out.size))
          clear hb5
          go_wp2_with fail
          go_ret
          exact ⟨rfl, HB5.out⟩
  · have h2 : 1048576 < (n : Int) := by omega
    clear hl hz hp hv
    go_enter Tryz.func6, Tryz.ntmps6
    go_wp2_with fail
    go_ret
    exact ⟨rfl, Below.refl _ _⟩
end Go.Proofs.YthpcmglnooemaaaGreatDoor
