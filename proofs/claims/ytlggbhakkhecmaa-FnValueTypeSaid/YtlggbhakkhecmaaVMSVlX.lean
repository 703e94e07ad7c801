/- Merged: VlX. -/
import Derived.Test.YtlggbhakkhecmaaVM8
import Derived.Test.YtlggbhakkhecmaaVM11
import Derived.Test.YtlggbhakkhecmaaVM7
import Derived.Test.YtlggbhakkhecmaaVMSPlainG
namespace Go.Proofs.Ytlggbhakkhecmaa
open Go.RowKit

set_option maxRecDepth 100000 in
set_option maxHeartbeats 4000000 in
theorem lawValueTypeD {w : World} {p : Option Addr} {n c : Nat} {bs : List Int} (hl : bs.length = n) (hn : n ≤ 9223372036854775807) (hz : ∀ z ∈ bs, 0 ≤ z ∧ z ≤ 255) (hp : ∀ g o s, p = some ⟨g, o, s⟩ → n = 0 ∨ g < w.heap.size) (hv : Vals w p (u8s bs)) (hc : n ≤ c) :
    Calls Try.prog 3 #[.slice p n c] w fun e w' => e = .returned (.bool true) ∧ Below w.heap.size w w' := by
  by_cases h : n ≤ 1048576
  · have HD := hid (drawValueType_any hl (by omega) hz hp hv hc)
    clear hl hz hp hv
    go_enter Try.func3, Try.ntmps3
    go_wp2_with fail
    go_at_call 6
    refine HD.out.mono ?_
    rintro e w1 ⟨s, rfl, hs, hb1⟩
    have HB1 := hid hb1
    clear hb1
    have HB := hid (fun W => implValueType_any s (by omega) W)
    have HA := hid (fun W => specValueType_any s (by omega) W)
    cases hx : vtX s with
    | none =>
      have HB2 := hid (fun W => (show Calls Try.prog 7 #[.string s] W fun e w' => e = .returned (.tuple #[.string ByteArray.empty, .bool false]) ∧ Below W.heap.size W w' from by have h1 := HB.out W; rw [hx] at h1; exact h1))
      have HA2 := hid (fun W => (show Calls Try.prog 8 #[.string s] W fun e w' => e = .returned (.tuple #[.string ByteArray.empty, .bool false]) ∧ Below W.heap.size W w' from by have h1 := HA.out W; rw [hx] at h1; exact h1))
      clear hx HA HB
      go_wp2_with fail
      go_at_call 7
      refine (HB2.out _).mono ?_
      rintro e w2 ⟨rfl, hb2⟩
      have HC2 := hid (HB1.out.trans (hb2.mono HB1.out.size))
      clear hb2
      go_wp2_with fail
      go_at_call 8
      refine (HA2.out _).mono ?_
      rintro e w3 ⟨rfl, hb3⟩
      have HB3 := hid (HC2.out.trans (hb3.mono HC2.out.size))
      clear hb3
      go_wp2_with fail
      go_ret
      exact ⟨rfl, HB3.out⟩
    | some out =>
      obtain ⟨x, hr, ho, hsome⟩ : ∃ x, readSty s = some x ∧ out = x.byv.txt ∧ (readTy x.byv.txt).isSome = true := by
        unfold vtX at hx
        cases hr : readSty s with
        | none => rw [hr] at hx; cases hx
        | some x =>
          rw [hr] at hx
          simp only at hx
          split at hx
          · rename_i h; simp at hx; exact ⟨x, rfl, hx.symm, h⟩
          · cases hx
      obtain ⟨hro, hout⟩ := vt_facts x hr ho hsome
      have hsw := readSty_write hr
      have hosz : out.size ≤ 400 := by rw [ho, txt_size]; have h1 := byv_len x; have h2 := readSty_n hr; omega
      have HB2 := hid (fun W => (show Calls Try.prog 7 #[.string s] W fun e w' => e = .returned (.tuple #[.string out, .bool true]) ∧ Below W.heap.size W w' from by have h1 := HB.out W; rw [hx] at h1; exact h1))
      have HA2 := hid (fun W => (show Calls Try.prog 8 #[.string s] W fun e w' => e = .returned (.tuple #[.string out, .bool true]) ∧ Below W.heap.size W w' from by have h1 := HA.out W; rw [hx] at h1; exact h1))
      have hq : (!out.toList == out.toList) = false := by simp
      have HKK := hid (fun W => (show Calls Try.prog 9 #[.string out] W fun e w' => e = .returned (.string x.vt.kindS) ∧ Below W.heap.size W w' from by
        have h1 := implTypeKind_any out (by omega) W
        rw [hro] at h1; exact h1))
      have HPL := hid (fun W => (show Calls Try.prog 10 #[.string out] W fun e w' => e = .returned (.bool x.vt.plain) ∧ Below W.heap.size W w' from by
        have h1 := implTypePlain_any out (by omega) W
        have h2 : plainR out = x.vt.plain := by rw [plainR, hro]
        rw [h2] at h1; exact h1))
      have hks : (x.vt.kindS.toList == [118, 97, 108, 117, 101]) = true := by rw [kindS_toList, Ty.kindL, if_pos (vt_ok x).2]; rfl
      have hbit : (out.toList == [98]) = (s.toList == [98]) := by rw [hout, hsw, vt_bit]
      have hgt := gt_plain x
      rw [← hsw] at hgt
      obtain ⟨KS, hKS⟩ : ∃ K, x.vt.kindS = K := ⟨_, rfl⟩
      obtain ⟨P, hP⟩ : ∃ P, x.vt.plain = P := ⟨_, rfl⟩
      obtain ⟨B, hB⟩ : ∃ B, (s.toList == [98]) = B := ⟨_, rfl⟩
      rw [hKS] at HKK hks
      rw [hP] at HPL hgt
      rw [hB] at hbit
      have HGT := hid hgt
      clear hx HA HB hr ho hsome hro hout hsw hKS hP hgt
      go_wp2_with fail
      go_at_call 7
      refine (HB2.out _).mono ?_
      rintro e w2 ⟨rfl, hb2⟩
      have HC2 := hid (HB1.out.trans (hb2.mono HB1.out.size))
      clear hb2
      go_wp2_with fail
      go_at_call 8
      refine (HA2.out _).mono ?_
      rintro e w3 ⟨rfl, hb3⟩
      have HB3 := hid (HC2.out.trans (hb3.mono HC2.out.size))
      clear hb3
      go_wp2_with fail
      go_loopw [8, 9] (fun t u wr => ∃ i : Nat, i ≤ s.size ∧ u = .int .i64 (i : Int) ∧ t = .bool (gtB (s.toList.take i)) ∧ Hid (Below w3.heap.size w3 wr)) (fun _ u _ => s.size - (intOf u).toNat)
      case atStart => exact ⟨0, Nat.zero_le _, rfl, rfl, hid (Below.refl _ _)⟩
      case round =>
        obtain ⟨i, hi, rfl, rfl, hbel⟩ := hrel
        by_cases hlt : i < s.size
        · have d1 : (i : Int) < (s.size : Int) := by omega
          have HTK := hid (gt_take s i hlt)
          obtain ⟨G, hG⟩ : ∃ G, gtB (s.toList.take i) = G := ⟨_, rfl⟩
          rw [hG] at HTK ⊢
          clear hG
          cases G
          all_goals
            go_wp2_with fail
            go_roundw
            case rel => exact ⟨i + 1, by omega, by go_num, by rw [HTK.out]; rfl, hbel⟩
            case measure => simp [intOf]; omega
        · have hin : i = s.size := by omega
          have htk : s.toList.take i = s.toList := by rw [List.take_of_length_le]; rw [Go.ByteArray.toList_eq]; have : s.data.toList.length = s.size := by simp
                                                      omega
          rw [htk, HGT.out]
          have HBe := hid (HB3.out.trans (hbel.out.mono HB3.out.size))
          subst hin
          clear htk
          cases P
          all_goals
            cases B
            all_goals
              go_wp2_with (first
                | (go_at_call 10; have _ := HB6; refine (HPL.out _).mono ?_; rintro e w7 ⟨rfl, hb7⟩; have HB7 := hid (HB6.out.trans (hb7.mono HB6.out.size)); clear hb7)
                | (go_at_call 9; refine (HKK.out _).mono ?_; rintro e w6 ⟨rfl, hb6⟩; have HB6 := hid (HBe.out.trans (hb6.mono HBe.out.size)); clear hb6))
              go_ret
              exact ⟨rfl, HB7.out⟩

  · have h2 : 1048576 < n := by omega
    clear h hl hz hp hv
    go_enter Try.func3, Try.ntmps3
    go_wp2
    go_ret
    exact ⟨rfl, Below.refl _ _⟩
end Go.Proofs.Ytlggbhakkhecmaa
