/- Merged: KidsI. -/
import Derived.Test.YtknjpdbdchnpeaaFMSTexts
import Derived.Test.YtknjpdbdchnpeaaFM7
import Derived.Test.YtknjpdbdchnpeaaFM3
import Derived.Test.YtknjpdbdchnpeaaFM4
namespace Go.Proofs.Ytknjpdbdchnpeaa
open Go.RowKit

set_option maxRecDepth 100000 in
set_option maxHeartbeats 1000000 in
theorem implTypeKids_any (s : ByteArray) (hs : s.size ≤ 400000000) (w : World) : Calls Try.prog 15 #[.string s] w (KidsPost (readTy s) w) := by
  have HC := hid (fun W => readType_any s hs W)
  cases hr : readTy s with
  | none =>
    have HR := hid hr
    clear hr
    go_enter Try.func15, Try.ntmps15
    go_wp2_with (go_at_call 43; refine (HC.out _).mono ?_; rintro e w1 hp; rw [HR.out] at hp; obtain ⟨rfl, hb1⟩ := hp.none; clear hp)
    go_ret2
    exact kidsPost_none hb1
  | some ty =>
    have hsm := readTy_small hr
    cases ty with
    | bit =>
      have mk := m_kids_bit 
      have HR := hid hr
      have HSM := hid hsm
      have HT := hid (fun (p : Option Addr) (cc : Nat) W (hv : Vals W p (([] : List Ty).map Ty.val)) => typeTexts_go ([] : List Ty) p 0 cc W rfl (by decide) hv (by intro i t ht; simp at ht))
      clear hr hsm
      go_enter Try.func15, Try.ntmps15
      go_wp2_with (first | (go_at_call 43; refine (HC.out _).mono ?_; rintro e w1 hp; rw [HR.out] at hp; obtain ⟨he1, hb1⟩ := hp.some; simp only [Ty.val] at he1; subst he1; clear hp) | (go_at_call 129; refine (kids_bit _).mono ?_; rintro e w2 ⟨rfl, hb2⟩; have HV := hid (show Vals w2 none (([] : List Ty).map Ty.val) from fun i v h => by simp at h)) | (go_at_call 46; refine (HT.out _ _ _ HV.out).mono ?_; rintro e w3 ⟨⟨q, c, rfl, hown⟩, hb3⟩; have HO := hid hown; clear hown))
      go_ret2
      have s1 := hb1.size
      have s2 := hb2.size
      exact kidsPost_some (l := []) rfl rfl (by omega) HO.out ((hb1.trans (hb2.mono s1)).trans (hb3.mono (by omega)))
    | pair x y =>
      have mk := m_kids_pair x.val y.val
      have HR := hid hr
      have HSM := hid hsm
      have HT := hid (fun (p : Option Addr) (cc : Nat) W (hv : Vals W p (([x, y] : List Ty).map Ty.val)) => typeTexts_go ([x, y] : List Ty) p 2 cc W rfl (by decide) hv (by intro i t ht; match i, ht with | 0, ht => simp at ht; subst ht; exact fun W => typeText_any x (by have := HSM.out; simp [Ty.write] at this; omega) W | 1, ht => simp at ht; subst ht; exact fun W => typeText_any y (by have := HSM.out; simp [Ty.write] at this; omega) W))
      clear hr hsm
      go_enter Try.func15, Try.ntmps15
      go_wp2_with (first | (go_at_call 43; refine (HC.out _).mono ?_; rintro e w1 hp; rw [HR.out] at hp; obtain ⟨he1, hb1⟩ := hp.some; simp only [Ty.val] at he1; subst he1; clear hp) | (go_at_call 134; refine (kids_pair _ _ _).mono ?_; rintro e w2 ⟨b, rfl, hb0, hb2⟩; have HV := hid (vals_two hb0)) | (go_at_call 46; refine (HT.out _ _ _ HV.out).mono ?_; rintro e w3 ⟨⟨q, c, rfl, hown⟩, hb3⟩; have HO := hid hown; clear hown))
      go_ret2
      have s1 := hb1.size
      have s2 := hb2.size
      exact kidsPost_some (l := [x, y]) rfl rfl (by omega) HO.out ((hb1.trans (hb2.mono s1)).trans (hb3.mono (by omega)))
    | thunk x =>
      have mk := m_kids_thunk x.val
      have HR := hid hr
      have HSM := hid hsm
      have HT := hid (fun (p : Option Addr) (cc : Nat) W (hv : Vals W p (([x] : List Ty).map Ty.val)) => typeTexts_go ([x] : List Ty) p 1 cc W rfl (by decide) hv (by intro i t ht; match i, ht with | 0, ht => simp at ht; subst ht; exact fun W => typeText_any x (by have := HSM.out; simp [Ty.write] at this; omega) W))
      clear hr hsm
      go_enter Try.func15, Try.ntmps15
      go_wp2_with (first | (go_at_call 43; refine (HC.out _).mono ?_; rintro e w1 hp; rw [HR.out] at hp; obtain ⟨he1, hb1⟩ := hp.some; simp only [Ty.val] at he1; subst he1; clear hp) | (go_at_call 138; refine (kids_thunk _ _).mono ?_; rintro e w2 ⟨b, rfl, hb0, hb2⟩; have HV := hid (vals_one hb0)) | (go_at_call 46; refine (HT.out _ _ _ HV.out).mono ?_; rintro e w3 ⟨⟨q, c, rfl, hown⟩, hb3⟩; have HO := hid hown; clear hown))
      go_ret2
      have s1 := hb1.size
      have s2 := hb2.size
      exact kidsPost_some (l := [x]) rfl rfl (by omega) HO.out ((hb1.trans (hb2.mono s1)).trans (hb3.mono (by omega)))
    | ret x =>
      have mk := m_kids_ret x.val
      have HR := hid hr
      have HSM := hid hsm
      have HT := hid (fun (p : Option Addr) (cc : Nat) W (hv : Vals W p (([x] : List Ty).map Ty.val)) => typeTexts_go ([x] : List Ty) p 1 cc W rfl (by decide) hv (by intro i t ht; match i, ht with | 0, ht => simp at ht; subst ht; exact fun W => typeText_any x (by have := HSM.out; simp [Ty.write] at this; omega) W))
      clear hr hsm
      go_enter Try.func15, Try.ntmps15
      go_wp2_with (first | (go_at_call 43; refine (HC.out _).mono ?_; rintro e w1 hp; rw [HR.out] at hp; obtain ⟨he1, hb1⟩ := hp.some; simp only [Ty.val] at he1; subst he1; clear hp) | (go_at_call 142; refine (kids_ret _ _).mono ?_; rintro e w2 ⟨b, rfl, hb0, hb2⟩; have HV := hid (vals_one hb0)) | (go_at_call 46; refine (HT.out _ _ _ HV.out).mono ?_; rintro e w3 ⟨⟨q, c, rfl, hown⟩, hb3⟩; have HO := hid hown; clear hown))
      go_ret2
      have s1 := hb1.size
      have s2 := hb2.size
      exact kidsPost_some (l := [x]) rfl rfl (by omega) HO.out ((hb1.trans (hb2.mono s1)).trans (hb3.mono (by omega)))
    | fn x y =>
      have mk := m_kids_fn x.val y.val
      have HR := hid hr
      have HSM := hid hsm
      have HT := hid (fun (p : Option Addr) (cc : Nat) W (hv : Vals W p (([x, y] : List Ty).map Ty.val)) => typeTexts_go ([x, y] : List Ty) p 2 cc W rfl (by decide) hv (by intro i t ht; match i, ht with | 0, ht => simp at ht; subst ht; exact fun W => typeText_any x (by have := HSM.out; simp [Ty.write] at this; omega) W | 1, ht => simp at ht; subst ht; exact fun W => typeText_any y (by have := HSM.out; simp [Ty.write] at this; omega) W))
      clear hr hsm
      go_enter Try.func15, Try.ntmps15
      go_wp2_with (first | (go_at_call 43; refine (HC.out _).mono ?_; rintro e w1 hp; rw [HR.out] at hp; obtain ⟨he1, hb1⟩ := hp.some; simp only [Ty.val] at he1; subst he1; clear hp) | (go_at_call 146; refine (kids_fn _ _ _).mono ?_; rintro e w2 ⟨b, rfl, hb0, hb2⟩; have HV := hid (vals_two hb0)) | (go_at_call 46; refine (HT.out _ _ _ HV.out).mono ?_; rintro e w3 ⟨⟨q, c, rfl, hown⟩, hb3⟩; have HO := hid hown; clear hown))
      go_ret2
      have s1 := hb1.size
      have s2 := hb2.size
      exact kidsPost_some (l := [x, y]) rfl rfl (by omega) HO.out ((hb1.trans (hb2.mono s1)).trans (hb3.mono (by omega)))
    | choice x y =>
      have mk := m_kids_choice x.val y.val
      have HR := hid hr
      have HSM := hid hsm
      have HT := hid (fun (p : Option Addr) (cc : Nat) W (hv : Vals W p (([x, y] : List Ty).map Ty.val)) => typeTexts_go ([x, y] : List Ty) p 2 cc W rfl (by decide) hv (by intro i t ht; match i, ht with | 0, ht => simp at ht; subst ht; exact fun W => typeText_any x (by have := HSM.out; simp [Ty.write] at this; omega) W | 1, ht => simp at ht; subst ht; exact fun W => typeText_any y (by have := HSM.out; simp [Ty.write] at this; omega) W))
      clear hr hsm
      go_enter Try.func15, Try.ntmps15
      go_wp2_with (first | (go_at_call 43; refine (HC.out _).mono ?_; rintro e w1 hp; rw [HR.out] at hp; obtain ⟨he1, hb1⟩ := hp.some; simp only [Ty.val] at he1; subst he1; clear hp) | (go_at_call 150; refine (kids_choice _ _ _).mono ?_; rintro e w2 ⟨b, rfl, hb0, hb2⟩; have HV := hid (vals_two hb0)) | (go_at_call 46; refine (HT.out _ _ _ HV.out).mono ?_; rintro e w3 ⟨⟨q, c, rfl, hown⟩, hb3⟩; have HO := hid hown; clear hown))
      go_ret2
      have s1 := hb1.size
      have s2 := hb2.size
      exact kidsPost_some (l := [x, y]) rfl rfl (by omega) HO.out ((hb1.trans (hb2.mono s1)).trans (hb3.mono (by omega)))
end Go.Proofs.Ytknjpdbdchnpeaa
