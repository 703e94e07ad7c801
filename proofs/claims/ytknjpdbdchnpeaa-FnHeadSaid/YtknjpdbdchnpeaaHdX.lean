/- FnHead: the law, walked. -/
import Derived.Test.YtknjpdbdchnpeaaDrwYHead
import Derived.Test.YtknjpdbdchnpeaaLwQ
import Derived.Test.YtknjpdbdchnpeaaHeadI
import Derived.Test.YtknjpdbdchnpeaaKidsI
namespace Go.Proofs.Ytknjpdbdchnpeaa
open Go.RowKit

set_option maxRecDepth 100000 in
set_option maxHeartbeats 4000000 in
theorem lawHeadD {w : World} {p : Option Addr} {n c : Nat} {bs : List Int} (hl : bs.length = n) (hn : n ≤ 9223372036854775807) (hz : ∀ z ∈ bs, 0 ≤ z ∧ z ≤ 255) (hp : ∀ g o s, p = some ⟨g, o, s⟩ → n = 0 ∨ g < w.heap.size) (hv : Vals w p (u8s bs)) (hc : n ≤ c) :
    Calls Try.prog 4 #[.slice p n c] w fun e w' => e = .returned (.bool true) ∧ Below w.heap.size w w' := by
  by_cases h : n ≤ 1048576
  · have HD := hid (drawTypeHead_any hl (by omega) hz hp hv hc)
    clear hl hz hp hv
    go_enter Try.func4, Try.ntmps4
    go_wp2_with fail
    go_at_call 18
    refine HD.out.mono ?_
    rintro e w1 ⟨s, rfl, hs, hb1⟩
    have HB1 := hid hb1
    clear hb1
    have HB := hid (fun W => implTypeHead_any s (by omega) W)
    have HA := hid (fun W => specTypeHead_any s (by omega) W)
    obtain ⟨K, hK⟩ : ∃ K, headOf (readTy s) = K := ⟨_, rfl⟩
    rw [hK] at HA HB
    have hq : (!K.toList == K.toList) = false := by simp
    have hq2 : (K.toList == K.toList) = true := by simp
    cases hx : readTy s with
    | none =>
      have he : K.toList.isEmpty = true := by rw [← hK, hx, headOf, empty_toList]; rfl
      clear hx hK
      go_wp2_with fail
      go_at_call 16
      refine (HB.out _).mono ?_
      rintro e w2 ⟨rfl, hb2⟩
      have HB2 := hid (HB1.out.trans (hb2.mono HB1.out.size))
      clear hb2
      go_wp2_with fail
      go_at_call 19
      refine (HA.out _).mono ?_
      rintro e w3 ⟨rfl, hb3⟩
      have HB3 := hid (HB2.out.trans (hb3.mono HB2.out.size))
      clear hb3
      go_wp2_with fail
      go_ret
      exact ⟨rfl, HB3.out⟩
    | some ty =>
      have hKt : (⟨#[ty.headB]⟩ : ByteArray) = K := by rw [← hK, hx]; rfl
      have he : K.toList.isEmpty = false := by rw [← hKt]; exact lw_head_some ty
      have HKD := hid (fun W => ((implTypeKids_any s (by omega) W).mono fun e w' h => lw_kids_post h))
      rw [hx] at HKD
      simp only [kidsO, Option.isSome] at HKD
      have hh := lw_heads ty
      rw [hKt] at hh
      obtain ⟨L, hL⟩ : ∃ L, ty.kids = L := ⟨_, rfl⟩
      obtain ⟨m, hm⟩ : ∃ m, L.length = m := ⟨_, rfl⟩
      rw [hL] at HKD hh
      rw [hm] at HKD hh
      clear hx hK hKt hL hm
      go_wp2_with fail
      go_at_call 16
      refine (HB.out _).mono ?_
      rintro e w2 ⟨rfl, hb2⟩
      have HB2 := hid (HB1.out.trans (hb2.mono HB1.out.size))
      clear hb2
      go_wp2_with fail
      go_at_call 19
      refine (HA.out _).mono ?_
      rintro e w3 ⟨rfl, hb3⟩
      have HB3 := hid (HB2.out.trans (hb3.mono HB2.out.size))
      clear hb3
      go_wp2_with fail
      go_at_call 15
      refine (HKD.out _).mono ?_
      rintro e w4 ⟨q, d, rfl, hv4, hu4, hb4⟩
      have HB4 := hid (HB3.out.trans (hb4.mono HB3.out.size))
      clear hv4 hu4
      clear hb4
      rcases hh with ⟨f1, f2, f3, rfl⟩ | ⟨f1, f2, f3, rfl⟩ | ⟨f1, f2, f3, rfl⟩ | ⟨f1, f2, f3, rfl⟩
      all_goals
        go_wp2_with fail
        go_ret
        exact ⟨rfl, HB4.out⟩

  · have h2 : 1048576 < n := by omega
    clear h hl hz hp hv
    go_enter Try.func4, Try.ntmps4
    go_wp2
    go_ret
    exact ⟨rfl, Below.refl _ _⟩
end Go.Proofs.Ytknjpdbdchnpeaa
