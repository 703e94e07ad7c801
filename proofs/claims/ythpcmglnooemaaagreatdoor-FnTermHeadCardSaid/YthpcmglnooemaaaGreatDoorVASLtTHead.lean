/- Merged: LtTHead. -/
import Derived.Test.YthpcmglnooemaaaGreatDoorVA45
import Derived.Test.YthpcmglnooemaaaGreatDoorVA44
import Derived.Test.YthpcmglnooemaaaGreatDoorVASSizeXI
import Derived.Test.YthpcmglnooemaaaGreatDoorVA7
import Derived.Test.YthpcmglnooemaaaGreatDoorVA30
namespace Go.Proofs.YthpcmglnooemaaaGreatDoor
open Go.RowKit

set_option maxRecDepth 100000 in
set_option maxHeartbeats 4000000 in
theorem lawTermHeadD {w : World} {p : Option Addr} {n c : Nat} {bs : List Int} (hl : bs.length = n) (hn : n ≤ 9223372036854775807) (hz : ∀ z ∈ bs, 0 ≤ z ∧ z ≤ 255) (hp : ∀ g o s, p = some ⟨g, o, s⟩ → n = 0 ∨ g < w.heap.size) (hv : Vals w p (u8s bs)) (hc : n ≤ c) :
    Calls Tryz.prog 4 #[.slice p n c] w fun e w' => e = .returned (.bool true) ∧ Below w.heap.size w w' := by
  by_cases h : n ≤ 1048576
  · obtain ⟨S, hS⟩ : ∃ S : Nat, S = 60000000 := ⟨_, rfl⟩
    have HD := hid (drawTermHead_any hS hl (by omega) hz hp hv hc)
    clear hl hz hp hv
    go_enter Tryz.func4, Tryz.ntmps4
    go_wp2_with fail
    go_at_call 17
    refine HD.out.mono ?_
    rintro e w1 ⟨s, rfl, hs, hb1⟩
    have HB1 := hid hb1
    clear hb1
    have HB := hid (fun W => implTermHead_any s (by omega) W)
    have HA := hid (fun W => specTermHead_any s (by omega) W)
    cases hx : readTm s with
    | none =>
      rw [thOf_none hx] at HA HB
      have hem : (ByteArray.empty : ByteArray).toList.isEmpty = true := isEmpty_of _ rfl
      have hq : (!(ByteArray.empty : ByteArray).toList == (ByteArray.empty : ByteArray).toList) = false := by simp
      have hq2 : ((ByteArray.empty : ByteArray).toList == (ByteArray.empty : ByteArray).toList) = true := by simp
      clear hx
      go_wp2_with fail
      go_at_call 16
      refine (HB.out _).mono ?_
      rintro e w2 ⟨rfl, hb2⟩
      have HB2 := hid (HB1.out.trans (hb2.mono HB1.out.size))
      clear hb2
      go_wp2_with fail
      go_at_call 18
      refine (HA.out _).mono ?_
      rintro e w3 ⟨rfl, hb3⟩
      have HB3 := hid (HB2.out.trans (hb3.mono HB2.out.size))
      clear hb3
      go_wp2_with fail
      go_ret
      exact ⟨rfl, HB3.out⟩
    | some m =>
      have hcs := head_cases hx
      rw [thOf_some hx] at HA HB
      have hk := kidsOf_some hx
      have hf := freeOf_some hx
      have HKD := hid (fun W => implTermKids_any s (by omega) W)
      have HFR := hid (fun W => implTermFree_any s (by omega) W)
      have HSZ := hid (fun W => (show Calls Tryz.prog 20 #[.string s] W fun e w' => e = .returned (.int .i64 (m.size : Int)) ∧ Below W.heap.size W w' from by have h := implTermSize_any s (by omega) W; rw [sizeOf_some hx] at h; exact h))
      obtain ⟨H, hH⟩ : ∃ H, m.hd = H := ⟨_, rfl⟩
      rw [hH] at hcs HA HB
      have hq : (!H.toList == H.toList) = false := by simp
      have hq2 : (H.toList == H.toList) = true := by simp
      rcases hcs with ⟨h1, h2, h3, h4⟩ | ⟨h1, h2, h3, h4⟩ | ⟨h1, h2⟩
      · have HK' := hid (fun W => (HKD.out W).mono fun e w' h => ll_of (l := []) (n := 0) (b := true) h (by rw [hk, h2]; rfl) rfl (by rw [hk]; rfl))
        have HF' := hid (fun W => (HFR.out W).mono fun e w' h => ll_of (l := [s]) (n := 1) (b := true) h (by rw [hf, h4]; rfl) rfl (by rw [hf]; rfl))
        rw [h3] at HSZ
        have e1 : (H.toList == [110, 97, 109, 101]) = true := by rw [h1, strName_toList]; rfl
        have e2 : (H.toList == [98, 105, 116]) = false := by rw [h1, strName_toList]; decide
        have e3 : H.toList.isEmpty = false := by rw [h1, strName_toList]; rfl
        clear h1 h2 h3 h4 hk hf HKD HFR hx hH
        go_wp2_with fail
        go_at_call 16
        refine (HB.out _).mono ?_
        rintro e w2 ⟨rfl, hb2⟩
        have HB2 := hid (HB1.out.trans (hb2.mono HB1.out.size))
        clear hb2
        go_wp2_with fail
        go_at_call 18
        refine (HA.out _).mono ?_
        rintro e w3 ⟨rfl, hb3⟩
        have HB3 := hid (HB2.out.trans (hb3.mono HB2.out.size))
        clear hb3
        go_wp2_with fail
        go_at_call 19
        refine (HF'.out _).mono ?_
        rintro e w4 ⟨q4, d4, rfl, hsv4, hv4, hu4, hb4⟩
        have HB4 := hid (HB3.out.trans (hb4.mono HB3.out.size))
        have HV4 := hid hv4
        have HU4 := hid hu4
        clear hsv4 hv4 hu4
        clear hb4
        go_wp2_with fail
        go_at_call 15
        refine (HK'.out _).mono ?_
        rintro e w5 ⟨q5, d5, rfl, hsv5, hv5, hu5, hb5⟩
        have HB5 := hid (HB4.out.trans (hb5.mono HB4.out.size))
        have HV5 := hid (lw_vals HV4.out hb5 HU4.out)
        have HU5 := hid (fun b o h => Nat.lt_of_lt_of_le (HU4.out b o h) hb5.size)
        clear hsv5 hv5 hu5 hb5
        go_wp2_with fail
        go_at_call 20
        refine (HSZ.out _).mono ?_
        rintro e w6 ⟨rfl, hb6⟩
        have HB6 := hid (HB5.out.trans (hb6.mono HB5.out.size))
        have HV6 := hid (lw_vals HV5.out hb6 HU5.out)
        have HU6 := hid (fun b o h => Nat.lt_of_lt_of_le (HU5.out b o h) hb6.size)
        clear hb6
        go_wp2_with fail
        go_at_call 21
        refine (sameTexts_same [s] _ _ 1 _ _ _ rfl (by omega) (lw_vals HV6.out ((Below.refl w6.heap.size w6).alloc (Nat.le_refl _) (.cells #[.string s] 9)) HU6.out) (fun i v h => by
          have : i = 0 ∧ v = .string s := by
            cases i with
            | zero => simp at h; exact ⟨rfl, h.symm⟩
            | succ i => simp at h
          obtain ⟨rfl, rfl⟩ := this
          exact ⟨w6.heap.size, 0, rfl, by have h := heap_new w6 (.cells #[.string s] 9) w6.heap.size rfl; simp only [World.cell?, h]; rfl⟩)).mono ?_
        rintro e w7 ⟨rfl, hb7⟩
        have HB7 := hid (HB6.out.trans ((((Below.refl w6.heap.size w6).alloc (Nat.le_refl _) (.cells #[.string s] 9)).trans (hb7.mono (by simp))).mono HB6.out.size))
        clear hb7
        go_wp2_with fail
        go_ret
        exact ⟨rfl, HB7.out⟩
      · have HK' := hid (fun W => (HKD.out W).mono fun e w' h => ll_of (l := []) (n := 0) (b := true) h (by rw [hk, h2]; rfl) rfl (by rw [hk]; rfl))
        have HF' := hid (fun W => (HFR.out W).mono fun e w' h => ll_of (b := true) h rfl rfl (by rw [hf]; rfl))
        rw [h3] at HSZ
        have e1 : (H.toList == [110, 97, 109, 101]) = false := by rw [h1, strBit_toList]; decide
        have e2 : (H.toList == [98, 105, 116]) = true := by rw [h1, strBit_toList]; rfl
        have e3 : H.toList.isEmpty = false := by rw [h1, strBit_toList]; rfl
        have e4 : (s.toList == [48]) = true ∨ ((s.toList == [48]) = false ∧ (s.toList == [49]) = true) := by
          rcases h4 with h | h
          · left; rw [h]; rfl
          · right; rw [h]; exact ⟨by decide, rfl⟩
        clear h1 h2 h3 h4 hk hf HKD HFR hx hH
        go_wp2_with fail
        go_at_call 16
        refine (HB.out _).mono ?_
        rintro e w2 ⟨rfl, hb2⟩
        have HB2 := hid (HB1.out.trans (hb2.mono HB1.out.size))
        clear hb2
        go_wp2_with fail
        go_at_call 18
        refine (HA.out _).mono ?_
        rintro e w3 ⟨rfl, hb3⟩
        have HB3 := hid (HB2.out.trans (hb3.mono HB2.out.size))
        clear hb3
        go_wp2_with fail
        go_at_call 19
        refine (HF'.out _).mono ?_
        rintro e w4 ⟨q4, d4, rfl, hsv4, hv4, hu4, hb4⟩
        have HB4 := hid (HB3.out.trans (hb4.mono HB3.out.size))
        clear hsv4 hv4 hu4
        clear hb4
        go_wp2_with fail
        go_at_call 15
        refine (HK'.out _).mono ?_
        rintro e w5 ⟨q5, d5, rfl, hsv5, hv5, hu5, hb5⟩
        have HB5 := hid (HB4.out.trans (hb5.mono HB4.out.size))
        clear hsv5 hv5 hu5
        clear hb5
        go_wp2_with fail
        go_at_call 20
        refine (HSZ.out _).mono ?_
        rintro e w6 ⟨rfl, hb6⟩
        have HB6 := hid (HB5.out.trans (hb6.mono HB5.out.size))
        clear hb6
        rcases e4 with e4 | ⟨e4, e5⟩
        all_goals
          go_wp2_with fail
          go_ret
          exact ⟨rfl, HB6.out⟩
      · have HK' := hid (fun W => (HKD.out W).mono fun e w' h => ll_of (b := true) h rfl rfl (by rw [hk]; rfl))
        have HF' := hid (fun W => (HFR.out W).mono fun e w' h => ll_of (b := true) h rfl rfl (by rw [hf]; rfl))
        obtain ⟨e1, e2, e3⟩ := headL_not h1
        have e4 : ((m.size : Int) == 1) = false := by simp; omega
        have e5 : ¬ (m.size : Int) = 1 := by omega
        clear h1 h2 hk hf HKD HFR hx hH
        go_wp2_with fail
        go_at_call 16
        refine (HB.out _).mono ?_
        rintro e w2 ⟨rfl, hb2⟩
        have HB2 := hid (HB1.out.trans (hb2.mono HB1.out.size))
        clear hb2
        go_wp2_with fail
        go_at_call 18
        refine (HA.out _).mono ?_
        rintro e w3 ⟨rfl, hb3⟩
        have HB3 := hid (HB2.out.trans (hb3.mono HB2.out.size))
        clear hb3
        go_wp2_with fail
        go_at_call 19
        refine (HF'.out _).mono ?_
        rintro e w4 ⟨q4, d4, rfl, hsv4, hv4, hu4, hb4⟩
        have HB4 := hid (HB3.out.trans (hb4.mono HB3.out.size))
        clear hsv4 hv4 hu4
        clear hb4
        go_wp2_with fail
        go_at_call 15
        refine (HK'.out _).mono ?_
        rintro e w5 ⟨q5, d5, rfl, hsv5, hv5, hu5, hb5⟩
        have HB5 := hid (HB4.out.trans (hb5.mono HB4.out.size))
        clear hsv5 hv5 hu5
        clear hb5
        go_wp2_with fail
        go_at_call 20
        refine (HSZ.out _).mono ?_
        rintro e w6 ⟨rfl, hb6⟩
        have HB6 := hid (HB5.out.trans (hb6.mono HB5.out.size))
        clear hb6
        go_wp2_with fail
        go_ret
        exact ⟨rfl, HB6.out⟩
  · have h2 : 1048576 < (n : Int) := by omega
    clear hl hz hp hv
    go_enter Tryz.func4, Tryz.ntmps4
    go_wp2_with fail
    go_ret
    exact ⟨rfl, Below.refl _ _⟩
end Go.Proofs.YthpcmglnooemaaaGreatDoor
