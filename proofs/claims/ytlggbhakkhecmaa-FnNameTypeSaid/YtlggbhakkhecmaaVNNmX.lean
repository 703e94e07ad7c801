/- FnNameType: the law, walked. -/
import Derived.Test.YtlggbhakkhecmaaVNDrwZNameType
import Derived.Test.YtlggbhakkhecmaaVM11
import Derived.Test.YtlggbhakkhecmaaVM7
import Derived.Test.YtlggbhakkhecmaaVMSPlainG
import Derived.Test.YtlggbhakkhecmaaVNHeadG
namespace Go.Proofs.Ytlggbhakkhecmaa
open Go.RowKit

set_option maxRecDepth 100000 in
set_option maxHeartbeats 4000000 in
theorem lawNameTypeD {w : World} {p : Option Addr} {n c : Nat} {bs : List Int} (hl : bs.length = n) (hn : n ≤ 9223372036854775807) (hz : ∀ z ∈ bs, 0 ≤ z ∧ z ≤ 255) (hp : ∀ g o s, p = some ⟨g, o, s⟩ → n = 0 ∨ g < w.heap.size) (hv : Vals w p (u8s bs)) (hc : n ≤ c) :
    Calls Try.prog 4 #[.slice p n c] w fun e w' => e = .returned (.bool true) ∧ Below w.heap.size w w' := by
  by_cases h : n ≤ 1048576
  · have HD := hid (drawNameType_any hl (by omega) hz hp hv hc)
    clear hl hz hp hv
    go_enter Try.func4, Try.ntmps4
    go_wp2_with fail
    go_at_call 11
    refine HD.out.mono ?_
    rintro e w1 ⟨s, rfl, hs, hb1⟩
    have HB1 := hid hb1
    clear hb1
    have HB := hid (fun W => implNameType_any s (by omega) W)
    have HA := hid (fun W => specNameType_any s (by omega) W)
    cases hx : ntX s with
    | none =>
      have HB2 := hid (fun W => (show Calls Try.prog 12 #[.string s] W fun e w' => e = .returned (.tuple #[.string ByteArray.empty, .bool false]) ∧ Below W.heap.size W w' from by have h1 := HB.out W; rw [hx] at h1; exact h1))
      have HA2 := hid (fun W => (show Calls Try.prog 13 #[.string s] W fun e w' => e = .returned (.tuple #[.string ByteArray.empty, .bool false]) ∧ Below W.heap.size W w' from by have h1 := HA.out W; rw [hx] at h1; exact h1))
      clear hx HA HB
      go_wp2_with fail
      go_at_call 12
      refine (HB2.out _).mono ?_
      rintro e w2 ⟨rfl, hb2⟩
      have HC2 := hid (HB1.out.trans (hb2.mono HB1.out.size))
      clear hb2
      go_wp2_with fail
      go_at_call 13
      refine (HA2.out _).mono ?_
      rintro e w3 ⟨rfl, hb3⟩
      have HB3 := hid (HC2.out.trans (hb3.mono HC2.out.size))
      clear hb3
      go_wp2_with fail
      go_ret
      exact ⟨rfl, HB3.out⟩
    | some out =>
      obtain ⟨x, hr, ho, hsome⟩ : ∃ x, readSty s = some x ∧ out = x.byn.txt ∧ (readTy x.byn.txt).isSome = true := by
        unfold ntX at hx
        cases hr : readSty s with
        | none => rw [hr] at hx; cases hx
        | some x =>
          rw [hr] at hx
          simp only at hx
          split at hx
          · rename_i h; simp at hx; exact ⟨x, rfl, hx.symm, h⟩
          · cases hx
      obtain ⟨hro, hout⟩ := nt_facts x hr ho hsome
      have hsw := readSty_write hr
      have hosz : out.size ≤ 400 := by rw [ho, txt_size]; have h1 := byn_len x; have h2 := readSty_n hr; omega
      have HB2 := hid (fun W => (show Calls Try.prog 12 #[.string s] W fun e w' => e = .returned (.tuple #[.string out, .bool true]) ∧ Below W.heap.size W w' from by have h1 := HB.out W; rw [hx] at h1; exact h1))
      have HA2 := hid (fun W => (show Calls Try.prog 13 #[.string s] W fun e w' => e = .returned (.tuple #[.string out, .bool true]) ∧ Below W.heap.size W w' from by have h1 := HA.out W; rw [hx] at h1; exact h1))
      have hq : (!out.toList == out.toList) = false := by simp
      have HKK := hid (fun W => (show Calls Try.prog 9 #[.string out] W fun e w' => e = .returned (.string x.nt.kindS) ∧ Below W.heap.size W w' from by
        have h1 := implTypeKind_any out (by omega) W
        rw [hro] at h1; exact h1))
      have HPL := hid (fun W => (show Calls Try.prog 10 #[.string out] W fun e w' => e = .returned (.bool x.nt.plain) ∧ Below W.heap.size W w' from by
        have h1 := implTypePlain_any out (by omega) W
        have h2 : plainR out = x.nt.plain := by rw [plainR, hro]
        rw [h2] at h1; exact h1))
      have HHD := hid (fun W => (show Calls Try.prog 14 #[.string out] W fun e w' => e = .returned (.string ⟨#[x.nt.headB]⟩) ∧ Below W.heap.size W w' from by
        have h1 := implTypeHead_any out (by omega) W
        rw [hro] at h1; exact h1))
      have hks : (x.nt.kindS.toList == [99, 111, 109, 112, 117, 116, 97, 116, 105, 111, 110]) = true := by rw [kindS_toList, Ty.kindL, if_neg (by rw [(nt_ok x).2]; decide)]; rfl
      have hnf := nt_forms x hsw
      obtain ⟨KS, hKS⟩ : ∃ K, x.nt.kindS = K := ⟨_, rfl⟩
      obtain ⟨P, hP⟩ : ∃ P, x.nt.plain = P := ⟨_, rfl⟩
      obtain ⟨H, hH⟩ : ∃ H : ByteArray, H = ⟨#[x.nt.headB]⟩ := ⟨_, rfl⟩
      rw [hKS] at HKK hks
      rw [hP] at HPL hnf
      rw [← hH] at HHD hnf
      clear hx HA HB hr ho hsome hro hout hsw hKS hP hH
      go_wp2_with fail
      go_at_call 12
      refine (HB2.out _).mono ?_
      rintro e w2 ⟨rfl, hb2⟩
      have HC2 := hid (HB1.out.trans (hb2.mono HB1.out.size))
      clear hb2
      go_wp2_with fail
      go_at_call 13
      refine (HA2.out _).mono ?_
      rintro e w3 ⟨rfl, hb3⟩
      have HB3 := hid (HC2.out.trans (hb3.mono HC2.out.size))
      clear hb3
      rcases hnf with ⟨s1, f1, f2, rfl⟩ | ⟨s1, e1, e2, f1, f2, rfl⟩ | ⟨s1, e1, e2, f1, f2, rfl⟩
      all_goals
        go_wp2_with (first
          | (go_at_call 10; have _ := HB6; refine (HPL.out _).mono ?_; rintro e w7 ⟨rfl, hb7⟩; have HB7 := hid (HB6.out.trans (hb7.mono HB6.out.size)); clear hb7)
          | (go_at_call 9; have _ := HB5; refine (HKK.out _).mono ?_; rintro e w6 ⟨rfl, hb6⟩; have HB6 := hid (HB5.out.trans (hb6.mono HB5.out.size)); clear hb6)
          | (go_at_call 14; refine (HHD.out _).mono ?_; rintro e w5 ⟨rfl, hb5⟩; have HB5 := hid (HB3.out.trans (hb5.mono HB3.out.size)); clear hb5))
        go_ret
        exact ⟨rfl, HB7.out⟩

  · have h2 : 1048576 < n := by omega
    clear h hl hz hp hv
    go_enter Try.func4, Try.ntmps4
    go_wp2
    go_ret
    exact ⟨rfl, Below.refl _ _⟩
end Go.Proofs.Ytlggbhakkhecmaa
