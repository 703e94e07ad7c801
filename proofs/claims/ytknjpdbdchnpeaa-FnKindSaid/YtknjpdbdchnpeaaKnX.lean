/- FnKind: the law, walked. -/
import Derived.Test.YtknjpdbdchnpeaaDrwYKind
import Derived.Test.YtknjpdbdchnpeaaLwP
import Derived.Test.YtknjpdbdchnpeaaKindI
import Derived.Test.YtknjpdbdchnpeaaKindS
import Derived.Test.YtknjpdbdchnpeaaHeadI
import Derived.Test.YtknjpdbdchnpeaaKidsI
import Derived.Test.YtknjpdbdchnpeaaThkI
namespace Go.Proofs.Ytknjpdbdchnpeaa
open Go.RowKit

set_option maxRecDepth 100000 in
set_option maxHeartbeats 4000000 in
theorem lawKindD {w : World} {p : Option Addr} {n c : Nat} {bs : List Int} (hl : bs.length = n) (hn : n ≤ 9223372036854775807) (hz : ∀ z ∈ bs, 0 ≤ z ∧ z ≤ 255) (hp : ∀ g o s, p = some ⟨g, o, s⟩ → n = 0 ∨ g < w.heap.size) (hv : Vals w p (u8s bs)) (hc : n ≤ c) :
    Calls Try.prog 3 #[.slice p n c] w fun e w' => e = .returned (.bool true) ∧ Below w.heap.size w w' := by
  by_cases h : n ≤ 1048576
  · have HD := hid (drawTypeKind_any hl (by omega) hz hp hv hc)
    clear hl hz hp hv
    go_enter Try.func3, Try.ntmps3
    go_wp2_with fail
    go_at_call 12
    refine HD.out.mono ?_
    rintro e w1 ⟨s, rfl, hs, hb1⟩
    have HB1 := hid hb1
    have HB := hid (fun W => implTypeKind_any s (by omega) W)
    have HA := hid (fun W => specTypeKind_any s (by omega) W)
    obtain ⟨K, hK⟩ : ∃ K, kindOf (readTy s) = K := ⟨_, rfl⟩
    rw [hK] at HA HB
    have hq : (!K.toList == K.toList) = false := by simp
    have hq2 : (K.toList == K.toList) = true := by simp
    clear hb1
    cases hx : readTy s with
    | none =>
      have he : K.toList.isEmpty = true := by rw [← hK, hx, kindOf, empty_toList]; rfl
      clear hx hK
      go_wp2_with fail
      go_at_call 13
      refine (HB.out _).mono ?_
      rintro e w2 ⟨rfl, hb2⟩
      have HB2 := hid (HB1.out.trans (hb2.mono HB1.out.size))
      clear hb2
      go_wp2_with fail
      go_at_call 14
      refine (HA.out _).mono ?_
      rintro e w3 ⟨rfl, hb3⟩
      have HB3 := hid (HB2.out.trans (hb3.mono HB2.out.size))
      clear hb3
      go_wp2_with fail
      go_ret
      exact ⟨rfl, HB3.out⟩
    | some ty =>
      have hKt : ty.kindS = K := by rw [← hK, hx]; rfl
      have he : K.toList.isEmpty = false := by rw [← hKt]; exact kindS_some ty
      have HKI := hid (fun (i : Nat) (k : Ty) (h : ty.kids[i]? = some k) W => (show Calls Try.prog 13 #[.string k.text] W fun e w' => e = .returned (.string k.kindS) ∧ Below W.heap.size W w' from by
        have h1 := implTypeKind_any k.text (by have := lw_size hx h; omega) W
        rw [lw_kid_read hx h] at h1; exact h1))
      have HKD := hid (fun W => ((implTypeKids_any s (by omega) W).mono fun e w' h => lw_kids_post h))
      have HH := hid (fun W => implTypeHead_any s (by omega) W)
      have HT := hid (fun W => implTypeThunk_any s (by omega) W)
      have hth : (thunkR s = .tuple #[.string (thunkS s), .bool true] ∧ ty.isVal = false) ∨ thunkR s = .tuple #[.string ByteArray.empty, .bool false] := by
        cases ht : readTy (thunkS s) with
        | none => right; rw [thunkR, ht]
        | some u =>
          obtain ⟨d, hd, hv⟩ := thunk_ty ht
          rw [hx] at hd; simp at hd; subst hd
          left; exact ⟨by rw [thunkR, ht], hv⟩
      have hk2 := lw_kids2 ty
      have hkinds := lw_kinds ty
      rw [hx] at HKD HH
      simp only [kidsO, Option.isSome] at HKD
      rw [hKt] at hkinds
      obtain ⟨L, hL⟩ : ∃ L, ty.kids = L := ⟨_, rfl⟩
      obtain ⟨m, hm⟩ : ∃ m, L.length = m := ⟨_, rfl⟩
      rw [hL] at HKD HKI hk2
      rw [hm] at HKD hk2
      have HM := hid hm
      have HH2 := hid (fun W => (show Calls Try.prog 16 #[.string s] W fun e w' => e = .returned (.string ⟨#[ty.headB]⟩) ∧ Below W.heap.size W w' from HH.out W))
      obtain ⟨H, hH⟩ : ∃ H : ByteArray, H = ⟨#[ty.headB]⟩ := ⟨_, rfl⟩
      rw [← hH] at HH2 hkinds
      clear hx hK hKt hL hm HH hH
      go_wp2_with fail
      go_at_call 13
      refine (HB.out _).mono ?_
      rintro e w2 ⟨rfl, hb2⟩
      have HB2 := hid (HB1.out.trans (hb2.mono HB1.out.size))
      clear hb2
      go_wp2_with fail
      go_at_call 14
      refine (HA.out _).mono ?_
      rintro e w3 ⟨rfl, hb3⟩
      have HB3 := hid (HB2.out.trans (hb3.mono HB2.out.size))
      clear hb3
      go_wp2_with fail
      go_at_call 15
      refine (HKD.out _).mono ?_
      rintro e w4 ⟨q, d, rfl, hv4, hu4, hb4⟩
      have HV4 := hid hv4
      have HU4 := hid hu4
      have HB4 := hid (HB3.out.trans (hb4.mono HB3.out.size))
      clear hb4 hv4 hu4
      go_wp2_with fail
      go_loopw [8] (fun u wr => ∃ i : Nat, i ≤ m ∧ u = .int .i64 (i : Int) ∧ Hid (Below w4.heap.size w4 wr)) (fun u _ => m - (intOf u).toNat)
      case atStart => exact ⟨0, Nat.zero_le _, rfl, hid (Below.refl _ _)⟩
      case round =>
        obtain ⟨i, hi, rfl, hbel⟩ := hrel
        by_cases hlt : i < m
        · obtain ⟨k, hk⟩ : ∃ k, L[i]? = some k := ⟨_, List.getElem?_eq_getElem (by rw [HM.out]; exact hlt)⟩
          obtain ⟨b2, o2, hbo, hcz⟩ := HV4.out i _ (lw_get hk)
          subst hbo
          have HC := hid (HKI.out i k hk wr)
          have hcc := (hbel.out.cell (p := ⟨b2, o2 + i, none⟩) (HU4.out b2 o2 rfl)).trans hcz
          have d1 : (i : Int) < (m : Int) := by omega
          have hke := kindS_some k
          clear hk hcz
          go_wp2_with (go_at_call 13; refine HC.out.mono ?_; rintro e w5 ⟨rfl, hb5⟩; have HB5 := hid (hbel.out.trans (hb5.mono hbel.out.size)); clear hb5)
          go_roundw
          case rel => exact ⟨i + 1, by omega, by go_num, HB5⟩
          case measure => simp [intOf]; omega
        · have hin : i = m := by omega
          subst hin
          have HBe := hid (HB4.out.trans (hbel.out.mono HB4.out.size))
          rcases hth with ⟨ht, hv⟩ | ht
          all_goals
            rw [ht] at HT
            rcases hkinds with ⟨f1, f2, f3, f4, f5, f6⟩ | ⟨f1, f2, f3, f4, f5, f6⟩ | ⟨f1, f2, f3, f4, f5, f6⟩ | ⟨f1, f2, f3, f4, f5, f6⟩
            all_goals
              first
              | (rw [f6] at hv; cases hv; done)
              | (go_wp2_with (first
                  | (go_at_call 17; have _ := HB5; refine (HT.out _).mono ?_; rintro e w6 ⟨rfl, hb6⟩; have HB6 := hid (HB5.out.trans (hb6.mono HB5.out.size)); clear hb6)
                  | (go_at_call 16; refine (HH2.out _).mono ?_; rintro e w5 ⟨rfl, hb5⟩; have HB5 := hid (HBe.out.trans (hb5.mono HBe.out.size)); clear hb5))
                 go_ret
                 exact ⟨rfl, HB6.out⟩)
  · have h2 : 1048576 < n := by omega
    clear h hl hz hp hv
    go_enter Try.func3, Try.ntmps3
    go_wp2
    go_ret
    exact ⟨rfl, Below.refl _ _⟩
end Go.Proofs.Ytknjpdbdchnpeaa
