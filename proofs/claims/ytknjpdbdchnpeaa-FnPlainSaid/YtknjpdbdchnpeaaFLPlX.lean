/- FnPlain: the law, walked. -/
import Derived.Test.YtknjpdbdchnpeaaFLDrwYPlain
import Derived.Test.YtknjpdbdchnpeaaFLLwQ
import Derived.Test.YtknjpdbdchnpeaaFLHeadI
import Derived.Test.YtknjpdbdchnpeaaFMSKidsI
import Derived.Test.YtknjpdbdchnpeaaFM15
import Derived.Test.YtknjpdbdchnpeaaFLKindI
namespace Go.Proofs.Ytknjpdbdchnpeaa
open Go.RowKit

set_option maxRecDepth 100000 in
set_option maxHeartbeats 4000000 in
theorem lawPlainD {w : World} {p : Option Addr} {n c : Nat} {bs : List Int} (hl : bs.length = n) (hn : n ≤ 9223372036854775807) (hz : ∀ z ∈ bs, 0 ≤ z ∧ z ≤ 255) (hp : ∀ g o s, p = some ⟨g, o, s⟩ → n = 0 ∨ g < w.heap.size) (hv : Vals w p (u8s bs)) (hc : n ≤ c) :
    Calls Try.prog 6 #[.slice p n c] w fun e w' => e = .returned (.bool true) ∧ Below w.heap.size w w' := by
  by_cases h : n ≤ 1048576
  · have HD := hid (drawTypePlain_any hl (by omega) hz hp hv hc)
    clear hl hz hp hv
    go_enter Try.func6, Try.ntmps6
    go_wp2_with fail
    go_at_call 23
    refine HD.out.mono ?_
    rintro e w1 ⟨s, rfl, hs, hb1⟩
    have HB1 := hid hb1
    clear hb1
    have HB := hid (fun W => implTypePlain_any s (by omega) W)
    have HA := hid (fun W => specTypePlain_any s (by omega) W)
    obtain ⟨K, hK⟩ : ∃ K, plainR s = K := ⟨_, rfl⟩
    rw [hK] at HA HB
    have hq : (K != K) = false := by simp
    have hq2 : (K == K) = true := by simp
    cases K with
    | false =>
      clear hK
      go_wp2_with fail
      go_at_call 24
      refine (HB.out _).mono ?_
      rintro e w2 ⟨rfl, hb2⟩
      have HB2 := hid (HB1.out.trans (hb2.mono HB1.out.size))
      clear hb2
      go_wp2_with fail
      go_at_call 25
      refine (HA.out _).mono ?_
      rintro e w3 ⟨rfl, hb3⟩
      have HB3 := hid (HB2.out.trans (hb3.mono HB2.out.size))
      clear hb3
      go_wp2_with fail
      go_ret
      exact ⟨rfl, HB3.out⟩
    | true =>
      obtain ⟨ty, hx, hpl⟩ : ∃ ty, readTy s = some ty ∧ ty.plain = true := by
        unfold plainR at hK
        cases hx : readTy s with
        | none => rw [hx] at hK; cases hK
        | some ty => rw [hx] at hK; exact ⟨ty, rfl, hK⟩
      have HKI := hid (fun (i : Nat) (k : Ty) (h : ty.kids[i]? = some k) W => (show Calls Try.prog 24 #[.string k.text] W fun e w' => e = .returned (.bool true) ∧ Below W.heap.size W w' from by
        have h1 := implTypePlain_any k.text (by have := lw_size hx h; omega) W
        have h2 : plainR k.text = true := by rw [plainR, lw_kid_read hx h]; exact lw_plain_kid hpl h
        rw [h2] at h1; exact h1))
      have HKD := hid (fun W => ((implTypeKids_any s (by omega) W).mono fun e w' h => lw_kids_post h))
      have HH := hid (fun W => implTypeHead_any s (by omega) W)
      have HT := hid (fun W => implTypeCount_any s (by omega) W)
      have HKK := hid (fun W => implTypeKind_any s (by omega) W)
      rw [hx] at HKD HH HT HKK
      simp only [kidsO, Option.isSome] at HKD
      have hev : ∀ N, ty.cnt = some N → ((N % 2 = 0) ↔ ty.isVal = true) := fun N hN => lw_even (lw_good hx).1 hpl hN
      have hcn : (cntV ty.cnt = -1) ∨ ∃ N : Nat, cntV ty.cnt = (N : Int) ∧ N ≤ 5000 ∧ ((N % 2 = 0) ↔ ty.isVal = true) := by
        cases hN : ty.cnt with
        | none => left; rfl
        | some N => right; exact ⟨N, rfl, (cnt_range ty N hN).2, hev N hN⟩
      have hkinds := lw_plain_kinds hpl
      have hk2 := lw_kids2 ty
      obtain ⟨L, hL⟩ : ∃ L, ty.kids = L := ⟨_, rfl⟩
      obtain ⟨m, hm⟩ : ∃ m, L.length = m := ⟨_, rfl⟩
      have HM := hid hm
      have HH2 := hid (fun W => (show Calls Try.prog 16 #[.string s] W fun e w' => e = .returned (.string ⟨#[ty.headB]⟩) ∧ Below W.heap.size W w' from HH.out W))
      have HT2 := hid (fun W => (show Calls Try.prog 26 #[.string s] W fun e w' => e = .returned (.int .i64 (cntV ty.cnt)) ∧ Below W.heap.size W w' from HT.out W))
      have HKK2 := hid (fun W => (show Calls Try.prog 13 #[.string s] W fun e w' => e = .returned (.string ty.kindS) ∧ Below W.heap.size W w' from HKK.out W))
      rw [hL] at HKD HKI hk2
      rw [hm] at HKD hk2
      obtain ⟨H, hH⟩ : ∃ H : ByteArray, H = ⟨#[ty.headB]⟩ := ⟨_, rfl⟩
      obtain ⟨KS, hKS⟩ : ∃ K : ByteArray, K = ty.kindS := ⟨_, rfl⟩
      obtain ⟨C, hC⟩ : ∃ C : Int, C = cntV ty.cnt := ⟨_, rfl⟩
      obtain ⟨V, hV⟩ : ∃ V : Bool, V = ty.isVal := ⟨_, rfl⟩
      rw [← hH] at HH2 hkinds
      rw [← hKS] at HKK2 hkinds
      rw [← hC] at HT2 hcn
      rw [← hV] at hcn hkinds
      clear hx hK hpl hL hm HH hH HT HKK hKS hC hV hev
      go_wp2_with fail
      go_at_call 24
      refine (HB.out _).mono ?_
      rintro e w2 ⟨rfl, hb2⟩
      have HB2 := hid (HB1.out.trans (hb2.mono HB1.out.size))
      clear hb2
      go_wp2_with fail
      go_at_call 25
      refine (HA.out _).mono ?_
      rintro e w3 ⟨rfl, hb3⟩
      have HB3 := hid (HB2.out.trans (hb3.mono HB2.out.size))
      clear hb3
      go_wp2_with fail
      go_at_call 15
      refine (HKD.out _).mono ?_
      rintro e w4 ⟨q, d, rfl, hv4, hu4, hb4⟩
      have HB4 := hid (HB3.out.trans (hb4.mono HB3.out.size))
      have HV4 := hid hv4
      have HU4 := hid hu4
      clear hv4 hu4
      clear hb4
      go_wp2_with fail
      go_loopw [8] (fun u wr => ∃ i : Nat, i ≤ m ∧ u = .int .i64 (i : Int) ∧ Hid (Below w4.heap.size w4 wr)) (fun u _ => m - (intOf u).toNat)
      case atStart => exact ⟨0, Nat.zero_le _, rfl, hid (Below.refl _ _)⟩
      case round =>
        obtain ⟨i, hi, rfl, hbel⟩ := hrel
        by_cases hlt : i < m
        · obtain ⟨k, hk⟩ : ∃ k, L[i]? = some k := ⟨_, List.getElem?_eq_getElem (by rw [HM.out]; exact hlt)⟩
          obtain ⟨b2, o2, hbo, hcz⟩ := HV4.out i _ (lw_get hk)
          subst hbo
          have HC := hid (fun W => HKI.out i k hk W)
          have hcc := (hbel.out.cell (p := ⟨b2, o2 + i, none⟩) (HU4.out b2 o2 rfl)).trans hcz
          have d1 : (i : Int) < (m : Int) := by omega
          clear hk hcz
          go_wp2_with (go_at_call 24; refine (HC.out wr).mono ?_; rintro e w55 ⟨rfl, hb55⟩; have HB55 := hid (hbel.out.trans (hb55.mono hbel.out.size)); clear hb55)
          go_roundw
          case rel => exact ⟨i + 1, by omega, by go_num, HB55⟩
          case measure => simp [intOf]; omega
        · have hin : i = m := by omega
          subst hin
          have HBe := hid (HB4.out.trans (hbel.out.mono HB4.out.size))
          go_wp2_with fail
          go_at_call 16
          refine (HH2.out _).mono ?_
          rintro e w6 ⟨rfl, hb6⟩
          have HB6 := hid (HBe.out.trans (hb6.mono HBe.out.size))
          clear hb6
          rcases hcn with rfl | ⟨N, rfl, hN5, hev⟩
          · rcases hkinds with ⟨f1, f2, f3, f4, f5⟩ | ⟨f1, f2, f3, f4, f5⟩ | ⟨f1, f2, f3, f4, f5⟩
            all_goals
              go_wp2_with (go_at_call 26; refine (HT2.out _).mono ?_; rintro e w7 ⟨rfl, hb7⟩; have HB7 := hid (HB6.out.trans (hb7.mono HB6.out.size)); clear hb7)
              go_ret
              exact ⟨rfl, HB7.out⟩
          · have n0 : (0 : Int) ≤ (N : Int) := by omega
            have em : ((N : Int) % 2 == 0) = V := by
              cases V with
              | true => have := hev.2 rfl; simp; omega
              | false =>
                have : ¬ N % 2 = 0 := fun h => by have := hev.1 h; cases this
                simp; omega
            have em2 : ((N : Int).tmod 2 == 0) = V := by rw [Int.tmod_eq_emod_of_nonneg n0]; exact em
            clear hev
            rcases hkinds with ⟨f1, f2, f3, f4, f5⟩ | ⟨f1, f2, f3, f4, f5⟩ | ⟨f1, f2, f3, f4, f5⟩
            all_goals
              subst f5
              go_wp2_with (first
                | (go_at_call 13; have _ := HB7; refine (HKK2.out _).mono ?_; rintro e w8 ⟨rfl, hb8⟩; have HB8 := hid (HB7.out.trans (hb8.mono HB7.out.size)); clear hb8)
                | (go_at_call 26; refine (HT2.out _).mono ?_; rintro e w7 ⟨rfl, hb7⟩; have HB7 := hid (HB6.out.trans (hb7.mono HB6.out.size)); clear hb7))
              go_ret
              exact ⟨rfl, HB8.out⟩

  · have h2 : 1048576 < n := by omega
    clear h hl hz hp hv
    go_enter Try.func6, Try.ntmps6
    go_wp2
    go_ret
    exact ⟨rfl, Below.refl _ _⟩
end Go.Proofs.Ytknjpdbdchnpeaa
