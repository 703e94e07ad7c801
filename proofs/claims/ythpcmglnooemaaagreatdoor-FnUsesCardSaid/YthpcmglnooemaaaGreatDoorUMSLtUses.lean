/- Merged: LtUses. -/
import Derived.Test.YthpcmglnooemaaaGreatDoorUM45
import Derived.Test.YthpcmglnooemaaaGreatDoorUM46
import Derived.Test.YthpcmglnooemaaaGreatDoorUMSSizeXI
import Derived.Test.YthpcmglnooemaaaGreatDoorUM13
import Derived.Test.YthpcmglnooemaaaGreatDoorUM32
import Derived.Test.YthpcmglnooemaaaGreatDoorUM30
namespace Go.Proofs.YthpcmglnooemaaaGreatDoor
open Go.RowKit

set_option maxRecDepth 100000 in
set_option maxHeartbeats 4000000 in
theorem lawUsesD {w : World} {p : Option Addr} {n c : Nat} {bs : List Int} (hl : bs.length = n) (hn : n ≤ 9223372036854775807) (hz : ∀ z ∈ bs, 0 ≤ z ∧ z ≤ 255) (hp : ∀ g o s, p = some ⟨g, o, s⟩ → n = 0 ∨ g < w.heap.size) (hv : Vals w p (u8s bs)) (hc : n ≤ c) :
    Calls Tryz.prog 9 #[.slice p n c] w fun e w' => e = .returned (.bool true) ∧ Below w.heap.size w w' := by
  by_cases h : n ≤ 1048576
  · obtain ⟨S, hS⟩ : ∃ S : Nat, S = 60000000 := ⟨_, rfl⟩
    have HD := hid (drawTermUses_any hS hl (by omega) hz hp hv hc)
    clear hl hz hp hv
    go_enter Tryz.func9, Tryz.ntmps9
    go_wp2_with fail
    go_at_call 34
    refine HD.out.mono ?_
    rintro e w1 ⟨s, x, rfl, hs, hxz, hb1⟩
    have HB1 := hid hb1
    clear hb1
    have HB := hid (fun W => implTermUses_any s x (by omega) (by omega) W)
    have HA := hid (fun W => specTermUses_any s x (by omega) (by omega) W)
    obtain ⟨K, hK⟩ : ∃ K, usesOf s x = K := ⟨_, rfl⟩
    rw [hK] at HA HB
    by_cases hk0 : K < 0
    · clear hK
      go_wp2_with fail
      go_at_call 28
      refine (HB.out _).mono ?_
      rintro e w2 ⟨rfl, hb2⟩
      have HB2 := hid (HB1.out.trans (hb2.mono HB1.out.size))
      clear hb2
      go_wp2_with fail
      go_at_call 35
      refine (HA.out _).mono ?_
      rintro e w3 ⟨rfl, hb3⟩
      have HB3 := hid (HB2.out.trans (hb3.mono HB2.out.size))
      clear hb3
      go_wp2_with fail
      go_ret
      exact ⟨rfl, HB3.out⟩
    · obtain ⟨m, hx⟩ : ∃ m, readTm s = some m := by
        cases h : readTm s with
        | none => rw [usesOf_none h] at hK; omega
        | some m => exact ⟨m, rfl⟩
      have hnm : nameB x.toList = true := by
        cases h : nameB x.toList with
        | true => rfl
        | false => rw [usesOf_no h] at hK; omega
      rw [usesOf_some hx hnm] at hK
      obtain ⟨C, hC⟩ : ∃ C, cntB x.toList m.free = C := ⟨_, rfl⟩
      rw [hC] at hK
      subst hK
      have huf := us_free x m
      rw [hC] at huf
      have hcs : C ≤ m.size := by rw [← hC]; exact us_size _ _
      have hms : m.size ≤ 1500 := by obtain ⟨_, _, _, _, h⟩ := readTm_inv hx; exact h
      have HFR := hid (fun W => (implTermFree_any s (by omega) W).mono fun e w' h => lt_free_post hx h)
      have HSZ := hid (fun W => (show Calls Tryz.prog 20 #[.string s] W fun e w' => e = .returned (.int .i64 (m.size : Int)) ∧ Below W.heap.size W w' from by have h := implTermSize_any s (by omega) W; rw [sizeOf_some hx] at h; exact h))
      obtain ⟨U, hU⟩ : ∃ U, ({ data := #[40, 103, 101, 116, 32] } : ByteArray) ++ x ++ ({ data := #[32] } : ByteArray) ++ s ++ ({ data := #[41] } : ByteArray) = U := ⟨_, rfl⟩
      have hUz : U.size ≤ 400000000 := by rw [← hU]; simp only [ByteArray.size_append, bsz]; simp; omega
      have hub := us_bound (s := s) hnm (u := U) (by rw [← hU]; simp [ByteArray.data_append])
      have HSO := hid (fun W => implTermSort_any U hUz W)
      have HUU := hid (fun W => implTermUses_any U x hUz (by omega) W)
      have HUE := hid hU
      obtain ⟨Z, hZ⟩ : ∃ Z, sortOf U = Z := ⟨_, rfl⟩
      rw [hZ] at HSO hub
      obtain ⟨F, hF⟩ : ∃ F, dedB [] m.free = F := ⟨_, rfl⟩
      rw [hF] at HFR huf
      obtain ⟨fn, hfn⟩ : ∃ fn, F.length = fn := ⟨_, rfl⟩
      rw [hfn] at HFR
      have hfl : fn ≤ 1500 := by
        have h := free_bound s
        rw [freeOf_some hx, hF] at h
        simp at h; omega
      obtain ⟨V, hV⟩ : ∃ V, usesOf U x = V := ⟨_, rfl⟩
      rw [hV] at HUU hub
      obtain ⟨B, hB⟩ : ∃ B, hasB F x.toList = B := ⟨_, rfl⟩
      rw [hB] at huf
      have HHT := hid (fun q c W (h : SV W q fn c F) => (show Calls Tryz.prog 24 #[.slice q fn c, .string x] W fun e w' => e = .returned (.bool B) ∧ W = w' from by have h1 := hasText_any x F q fn c W h (by omega); rw [hB] at h1; exact h1))
      have hcb : (C = 0 ∧ B = false) ∨ ((0 : Int) < (C : Int) ∧ B = true) := by
        by_cases h0 : C = 0
        · left; subst h0; exact ⟨rfl, by rw [← huf]; rfl⟩
        · right; exact ⟨by omega, by rw [← huf]; exact decide_eq_true (by omega)⟩
      have hzz : (Z.toList.isEmpty = true) ∨ (Z.toList.isEmpty = false ∧ V = 0) := by
        rcases hub with h | h
        · left; rw [h]; exact isEmpty_of _ rfl
        · cases e : Z.toList.isEmpty with
          | true => exact Or.inl rfl
          | false => exact Or.inr ⟨rfl, h⟩
      have hci : (C : Int) ≤ (m.size : Int) := by omega
      clear hx hnm huf hC hF hfn hU hZ hV hB hub HD
      rcases hcb with ⟨rfl, rfl⟩ | ⟨hc0, rfl⟩
      all_goals
        rcases hzz with hz | ⟨hz, rfl⟩
        · go_wp2_with fail
          go_at_call 28
          refine (HB.out _).mono ?_
          rintro e w2 ⟨rfl, hb2⟩
          have HB2 := hid (HB1.out.trans (hb2.mono HB1.out.size))
          clear hb2
          go_wp2_with fail
          go_at_call 35
          refine (HA.out _).mono ?_
          rintro e w3 ⟨rfl, hb3⟩
          have HB3 := hid (HB2.out.trans (hb3.mono HB2.out.size))
          clear hb3
          go_wp2_with fail
          go_at_call 19
          refine (HFR.out _).mono ?_
          rintro e w4 ⟨q, c2, rfl, hsv4, hb4⟩
          have HB4 := hid (HB3.out.trans (hb4.mono HB3.out.size))
          have HSV := hid hsv4
          clear hsv4
          clear hb4
          go_wp2_with fail
          go_at_call 24
          refine (HHT.out _ _ _ HSV.out).mono ?_
          rintro e w5 ⟨rfl, rfl⟩
          go_wp2_with fail
          go_at_call 20
          refine (HSZ.out _).mono ?_
          rintro e w6 ⟨rfl, hb6⟩
          have HB6 := hid (HB4.out.trans (hb6.mono HB4.out.size))
          clear hb6
          go_wp2_with fail
          rw [HUE.out]
          go_at_call 13
          refine (HSO.out _).mono ?_
          rintro e w7 ⟨rfl, hb7⟩
          have HB7 := hid (HB6.out.trans (hb7.mono HB6.out.size))
          clear hb7
          go_wp2_with fail
          go_ret
          exact ⟨rfl, HB7.out⟩
        · go_wp2_with fail
          go_at_call 28
          refine (HB.out _).mono ?_
          rintro e w2 ⟨rfl, hb2⟩
          have HB2 := hid (HB1.out.trans (hb2.mono HB1.out.size))
          clear hb2
          go_wp2_with fail
          go_at_call 35
          refine (HA.out _).mono ?_
          rintro e w3 ⟨rfl, hb3⟩
          have HB3 := hid (HB2.out.trans (hb3.mono HB2.out.size))
          clear hb3
          go_wp2_with fail
          go_at_call 19
          refine (HFR.out _).mono ?_
          rintro e w4 ⟨q, c2, rfl, hsv4, hb4⟩
          have HB4 := hid (HB3.out.trans (hb4.mono HB3.out.size))
          have HSV := hid hsv4
          clear hsv4
          clear hb4
          go_wp2_with fail
          go_at_call 24
          refine (HHT.out _ _ _ HSV.out).mono ?_
          rintro e w5 ⟨rfl, rfl⟩
          go_wp2_with fail
          go_at_call 20
          refine (HSZ.out _).mono ?_
          rintro e w6 ⟨rfl, hb6⟩
          have HB6 := hid (HB4.out.trans (hb6.mono HB4.out.size))
          clear hb6
          go_wp2_with fail
          rw [HUE.out]
          go_at_call 13
          refine (HSO.out _).mono ?_
          rintro e w7 ⟨rfl, hb7⟩
          have HB7 := hid (HB6.out.trans (hb7.mono HB6.out.size))
          clear hb7
          go_wp2_with fail
          go_at_call 28
          refine (HUU.out _).mono ?_
          rintro e w8 ⟨rfl, hb8⟩
          have HB8 := hid (HB7.out.trans (hb8.mono HB7.out.size))
          clear hb8
          go_wp2_with fail
          go_ret
          exact ⟨rfl, HB8.out⟩
  · have h2 : 1048576 < (n : Int) := by omega
    clear hl hz hp hv
    go_enter Tryz.func9, Tryz.ntmps9
    go_wp2_with fail
    go_ret
    exact ⟨rfl, Below.refl _ _⟩
end Go.Proofs.YthpcmglnooemaaaGreatDoor
