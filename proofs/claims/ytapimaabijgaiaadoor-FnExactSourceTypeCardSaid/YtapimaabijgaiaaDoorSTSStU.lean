/- Merged: StU. -/
import Derived.Deep.RegionHeld3
import Derived.Test.YtapimaabijgaiaaDoorST8
import Derived.Test.YtapimaabijgaiaaDoorST12
import Derived.Test.YtapimaabijgaiaaDoorSTSStK
import Derived.Test.YtapimaabijgaiaaDoorST10
import Derived.Test.YtapimaabijgaiaaDoorST11
namespace Go.Proofs.YtapimaabijgaiaaDoor
open Go.RowKit

set_option maxRecDepth 100000 in
set_option maxHeartbeats 4000000 in
theorem ty7_fst {w0 w : World} {b cap : Nat} {A : Nat → Hd} {np tp : Option Addr} {n nc tc : Nat} (hcap : 2 ≤ cap ∧ cap ≤ maxLen) (hk : Kept w0 w) (hw : w0.heap.size ≤ w.heap.size) (hh : (A 0).a.toList = [102, 115, 116])
    (hA : ∀ i, i < 2 → w0.cell? ⟨b, i * 2, none⟩ = some (.string (A i).a)) (hB : ∀ i, i < 2 → w0.cell? ⟨b, i * 2 + 1, none⟩ = some (.slice (A i).p (A i).l (A i).c)) (os : List (Option STy)) (o0 : Option STy) (hos : os = [o0]) (hn : ∀ o ∈ os, ∀ s, o = some s → s.n ≤ 12)
    (K : ∀ i o, os[i]? = some o → ∀ W, Kept w W → w.heap.size ≤ W.heap.size → Calls Tryd.prog 11 #[.agg #[.string (A (i + 1)).a, .slice (A (i + 1)).p (A (i + 1)).l (A (i + 1)).c], .slice np n nc, .slice tp n tc] W fun e w' => e = .returned (.string (txt7 o)) ∧ Below W.heap.size W w') :
    Calls Tryd.prog 11 #[.agg #[.string ByteArray.empty, .slice (some ⟨b, 0, none⟩) 2 cap], .slice np n nc, .slice tp n tc] w fun e w' => e = .returned (.string (txt7 (tyFst o0))) ∧ Below w.heap.size w w' := by
  have hmc : cap ≤ 9223372036854775807 := by have := hcap.2; unfold maxLen at this; omega
  have hcap4 : 2 ≤ cap := hcap.1
  have HOL := hid (show os.length = 1 by rw [hos]; rfl)
  have HNO := hid (fun (h : os.any Option.isNone = true) => (show tyFst o0 = none from by rw [hos] at h; exact tyFst_none h))
  have HK := hid K
  have HA := hid hA
  have HB := hid hB
  have hA0 := hA 0 (by omega)
  have hA0' : w0.cell? ⟨b, 0, none⟩ = some (.string (A 0).a) := by simpa using hA0
  have CF := hid (fun W (hb : Below (w.heap.size + 1) (w.alloc (.cells #[.string ByteArray.empty, .slice (some ⟨b, 0, none⟩) 2 cap] 33)) W) => (show (W.cell? ⟨w.heap.size, 0, none⟩ = some (.string ByteArray.empty) ∧ W.cell? ⟨w.heap.size, 1, none⟩ = some (.slice (some ⟨b, 0, none⟩) 2 cap)) ∧ Hid (Kept w0 W) ∧ Hid (Kept w W) ∧ True ∧ W.cell? ⟨b, 0, none⟩ = some (.string (A 0).a) ∧ True from by
    have c := cells_of_pair (block_below (heap_new w (.cells #[.string ByteArray.empty, .slice (some ⟨b, 0, none⟩) 2 cap] 33) w.heap.size rfl) hb (by simp))
    have k2 : Kept w W := ((Kept.refl w).alloc (Nat.le_refl _) _).below hb (by omega)
    have k1 : Kept w0 W := (hk.alloc hw _).below hb (by omega)
    exact ⟨⟨c.1, c.2.1⟩, hid k1, hid k2, trivial, k1.cell hA0', trivial⟩))
  obtain ⟨⟨z0, z1⟩, _, _, _, z2, _⟩ := CF.out _ (Below.refl _ _)
  obtain ⟨i0, hi0, hz0, hz1, hz2⟩ := info_parts Tryd.infoStr
  have HCL := hid hcap
  obtain ⟨Y, hY⟩ : ∃ Y, txt7 (tyFst o0) = Y := ⟨_, rfl⟩
  rw [hY]
  have HYE := hid hY
  clear hY
  have t0 : ((A 0).a.toList == [103, 101, 116]) = false := by rw [hh]; rfl
  have t1 : ((A 0).a.toList == [102, 97, 105, 108]) = false := by rw [hh]; rfl
  have t2 : ((A 0).a.toList == [108, 97, 109]) = false := by rw [hh]; rfl
  have t3 : ((A 0).a.toList == [97, 112, 112]) = false := by rw [hh]; rfl
  have t4 : ((A 0).a.toList == [105, 102]) = false := by rw [hh]; rfl
  have t5 : ((A 0).a.toList == [112, 97, 105, 114]) = false := by rw [hh]; rfl
  have t6 : ((A 0).a.toList == [102, 115, 116]) = true := by rw [hh]; rfl
  have HTF := hid hos
  have HN := hid hn
  clear hA hB hk hw hh hcap K hA0 hA0' hos hn
  go_enter Tryd.func11, Tryd.ntmps11
  go_wp2_with fail
  go_loopw [10, 11] (fun v u wr => ∃ (i c : Nat) (q : Option Addr), i ≤ 1 ∧ u = .int .i64 ((i : Int) + 1) ∧ v = .slice q i c ∧ wr.ownsRow (w.heap.size + 1) 9 1 (.slice q i c) i (((os.take i).map txt7).map Value.string) ∧ Below (w.heap.size + 1) (w.alloc (.cells #[.string ByteArray.empty, .slice (some ⟨b, 0, none⟩) 2 cap] 33)) wr) (fun _ u _ => 2 - (intOf u).toNat)
  case atStart => exact ⟨0, 0, some ⟨w.heap.size + 1, 0, none⟩, Nat.zero_le _, rfl, rfl, by simpa using own_empty (w.alloc (.cells #[.string ByteArray.empty, .slice (some ⟨b, 0, none⟩) 2 cap] 33)) (w.heap.size + 1) (by simp), (Below.refl _ _).alloc (by simp) _⟩
  case round =>
    obtain ⟨i, c, q, hi, rfl, rfl, hown, hbel⟩ := hrel
    have hz := hbel.size
    simp at hz
    obtain ⟨⟨x0, x1⟩, hkw, hkw2, _, y0, _⟩ := CF.out wr hbel
    have HOWN := hid hown
    have HBE := hid hbel
    by_cases hlt : i < 1
    · obtain ⟨o, ho⟩ : ∃ o, os[i]? = some o := ⟨_, List.getElem?_eq_getElem (by rw [HOL.out]; exact hlt)⟩
      have ca := hkw.out.cell (HA.out (i + 1) (by omega))
      have cb := hkw.out.cell (HB.out (i + 1) (by omega))
      have d2 : (i : Int) + 1 < 2 := by omega
      have d2' : i + 1 < 2 := by omega
      have HC := hid (HK.out i o ho wr hkw2.out (by omega))
      have htk : (os.take (i + 1)).map txt7 = (os.take i).map txt7 ++ [txt7 o] := by rw [List.take_add_one, ho]; simp
      obtain ⟨X, hX⟩ : ∃ X, txt7 o = X := ⟨_, rfl⟩
      rw [hX] at HC htk
      have HTK := hid htk
      clear ho hX htk hown hbel hkw hkw2
      go_wp2_with (first | (at_builtin; refine wpList_append_at _ rfl (.tmp 70) (.tmp 78) 36 rfl (w.heap.size + 1) 9 i0 (.string ByteArray.empty) 1 16 Tryd.underlying36 hi0 hz0 hz1 hz2 rfl (by decide) (.slice q i c) i _ rfl (HO1.out.alloc _) ⟨w1'.heap.size, 0, none⟩ 1 1 [.string X] rfl rfl (cells_new1 _ _ _ _ rfl) (by intro u hu; simp at hu; subst hu; rfl) (by decide) (by unfold maxLen; omega) (by omega) (by simp; omega) ?_; intro v' w2 hown2 hg2 hw2 hv2; obtain ⟨g2, kc2, rfl⟩ := hv2; have HG := hid hg2; have HO := hid hown2; clear hg2 hown2 hw2) | (go_at_call 11; refine HC.out.mono ?_; rintro r w1' ⟨rfl, hb1⟩; have HB1 := hid hb1; have HO1 := hid (ownsRow_under HOWN.out hb1); have s1 := hb1.size; clear hb1))
      go_roundw
      case rel => exact ⟨i + 1, kc2, some ⟨g2, 0, none⟩, by omega, by go_num, rfl, by rw [HTK.out, List.map_append]; exact HO.out, ((HBE.out.trans (HB1.out.mono (by omega))).alloc (by omega) _).grown HG.out (by simp; omega) (fun k e => (HOWN.out.lt k e).1)⟩
      case measure => simp [intOf]; omega
    · have hin : i = 1 := by omega
      subst hin
      have htk : os.take 1 = os := List.take_of_length_le (by rw [HOL.out]; omega)
      rw [htk] at hown
      have HSVL := hid (sv_own hown)
      have HR := hid (own_row hown)
      have HBW := hid (((Below.refl w.heap.size w).alloc (Nat.le_refl _) _).trans (hbel.mono (by omega)))
      have HHS := hid (l2Has_any ({ data := #[] } : ByteArray) (os.map txt7) q 1 c wr (sv_own hown) (by decide))
      have hhb : hasB (os.map txt7) ({ data := #[] } : ByteArray).toList = os.any Option.isNone := hasB_any os
      rw [hhb] at HHS
      clear hhb htk hown HOWN HCL hkw hkw2
      cases hB : os.any Option.isNone with
      | true =>
        have HRN := hid (show Y = ByteArray.empty by rw [← HYE.out, HNO.out hB]; rfl)
        rw [hB] at HHS
        go_wp2_with (go_at_call 19; refine HHS.out.mono ?_; rintro r w2 ⟨rfl, rfl⟩)
        go_ret
        exact ⟨ret_str HRN.out.symm, HBW.out⟩
      | false =>
        rw [hB] at HHS
        have hos := HTF.out
        subst hos
        have HNN := HN.out
        clear HN HTF HNO HK
        obtain ⟨s0, rfl⟩ : ∃ s, o0 = some s := by cases o0 with | none => simp at hB | some s => exact ⟨s, rfl⟩
        have n0 := HNN (some s0) (by simp) s0 rfl
        obtain ⟨g, rfl, _, e0⟩ := HR.out 0 _ rfl
        clear HR HNN HSVL hB 
        have HP := hid (fun W => l7Part_any (some s0) (fun s h => by simp at h; subst h; exact n0) 42 1 (by omega) W)
        have HRES := hid (tyFst_part s0)
        rw [← HRES.out] at HP
        obtain ⟨X, hX⟩ : ∃ X, txt7 (some s0) = X := ⟨_, rfl⟩
        rw [hX] at HP e0
        rw [HYE.out] at HP
        clear hX HRES HYE
        go_wp2_with (first | (go_at_call 24; refine (HP.out _).mono ?_; rintro r w3 ⟨rfl, hb3⟩) | (go_at_call 19; refine HHS.out.mono ?_; rintro r w2 ⟨rfl, rfl⟩))
        go_ret
        exact ⟨rfl, HBW.out.trans (hb3.mono HBW.out.size)⟩

set_option maxRecDepth 100000 in
set_option maxHeartbeats 4000000 in
theorem ty7_snd {w0 w : World} {b cap : Nat} {A : Nat → Hd} {np tp : Option Addr} {n nc tc : Nat} (hcap : 2 ≤ cap ∧ cap ≤ maxLen) (hk : Kept w0 w) (hw : w0.heap.size ≤ w.heap.size) (hh : (A 0).a.toList = [115, 110, 100])
    (hA : ∀ i, i < 2 → w0.cell? ⟨b, i * 2, none⟩ = some (.string (A i).a)) (hB : ∀ i, i < 2 → w0.cell? ⟨b, i * 2 + 1, none⟩ = some (.slice (A i).p (A i).l (A i).c)) (os : List (Option STy)) (o0 : Option STy) (hos : os = [o0]) (hn : ∀ o ∈ os, ∀ s, o = some s → s.n ≤ 12)
    (K : ∀ i o, os[i]? = some o → ∀ W, Kept w W → w.heap.size ≤ W.heap.size → Calls Tryd.prog 11 #[.agg #[.string (A (i + 1)).a, .slice (A (i + 1)).p (A (i + 1)).l (A (i + 1)).c], .slice np n nc, .slice tp n tc] W fun e w' => e = .returned (.string (txt7 o)) ∧ Below W.heap.size W w') :
    Calls Tryd.prog 11 #[.agg #[.string ByteArray.empty, .slice (some ⟨b, 0, none⟩) 2 cap], .slice np n nc, .slice tp n tc] w fun e w' => e = .returned (.string (txt7 (tySnd o0))) ∧ Below w.heap.size w w' := by
  have hmc : cap ≤ 9223372036854775807 := by have := hcap.2; unfold maxLen at this; omega
  have hcap4 : 2 ≤ cap := hcap.1
  have HOL := hid (show os.length = 1 by rw [hos]; rfl)
  have HNO := hid (fun (h : os.any Option.isNone = true) => (show tySnd o0 = none from by rw [hos] at h; exact tySnd_none h))
  have HK := hid K
  have HA := hid hA
  have HB := hid hB
  have hA0 := hA 0 (by omega)
  have hA0' : w0.cell? ⟨b, 0, none⟩ = some (.string (A 0).a) := by simpa using hA0
  have CF := hid (fun W (hb : Below (w.heap.size + 1) (w.alloc (.cells #[.string ByteArray.empty, .slice (some ⟨b, 0, none⟩) 2 cap] 33)) W) => (show (W.cell? ⟨w.heap.size, 0, none⟩ = some (.string ByteArray.empty) ∧ W.cell? ⟨w.heap.size, 1, none⟩ = some (.slice (some ⟨b, 0, none⟩) 2 cap)) ∧ Hid (Kept w0 W) ∧ Hid (Kept w W) ∧ True ∧ W.cell? ⟨b, 0, none⟩ = some (.string (A 0).a) ∧ True from by
    have c := cells_of_pair (block_below (heap_new w (.cells #[.string ByteArray.empty, .slice (some ⟨b, 0, none⟩) 2 cap] 33) w.heap.size rfl) hb (by simp))
    have k2 : Kept w W := ((Kept.refl w).alloc (Nat.le_refl _) _).below hb (by omega)
    have k1 : Kept w0 W := (hk.alloc hw _).below hb (by omega)
    exact ⟨⟨c.1, c.2.1⟩, hid k1, hid k2, trivial, k1.cell hA0', trivial⟩))
  obtain ⟨⟨z0, z1⟩, _, _, _, z2, _⟩ := CF.out _ (Below.refl _ _)
  obtain ⟨i0, hi0, hz0, hz1, hz2⟩ := info_parts Tryd.infoStr
  have HCL := hid hcap
  obtain ⟨Y, hY⟩ : ∃ Y, txt7 (tySnd o0) = Y := ⟨_, rfl⟩
  rw [hY]
  have HYE := hid hY
  clear hY
  have t0 : ((A 0).a.toList == [103, 101, 116]) = false := by rw [hh]; rfl
  have t1 : ((A 0).a.toList == [102, 97, 105, 108]) = false := by rw [hh]; rfl
  have t2 : ((A 0).a.toList == [108, 97, 109]) = false := by rw [hh]; rfl
  have t3 : ((A 0).a.toList == [97, 112, 112]) = false := by rw [hh]; rfl
  have t4 : ((A 0).a.toList == [105, 102]) = false := by rw [hh]; rfl
  have t5 : ((A 0).a.toList == [112, 97, 105, 114]) = false := by rw [hh]; rfl
  have t6 : ((A 0).a.toList == [102, 115, 116]) = false := by rw [hh]; rfl
  have t7 : ((A 0).a.toList == [115, 110, 100]) = true := by rw [hh]; rfl
  have HTF := hid hos
  have HN := hid hn
  clear hA hB hk hw hh hcap K hA0 hA0' hos hn
  go_enter Tryd.func11, Tryd.ntmps11
  go_wp2_with fail
  go_loopw [10, 11] (fun v u wr => ∃ (i c : Nat) (q : Option Addr), i ≤ 1 ∧ u = .int .i64 ((i : Int) + 1) ∧ v = .slice q i c ∧ wr.ownsRow (w.heap.size + 1) 9 1 (.slice q i c) i (((os.take i).map txt7).map Value.string) ∧ Below (w.heap.size + 1) (w.alloc (.cells #[.string ByteArray.empty, .slice (some ⟨b, 0, none⟩) 2 cap] 33)) wr) (fun _ u _ => 2 - (intOf u).toNat)
  case atStart => exact ⟨0, 0, some ⟨w.heap.size + 1, 0, none⟩, Nat.zero_le _, rfl, rfl, by simpa using own_empty (w.alloc (.cells #[.string ByteArray.empty, .slice (some ⟨b, 0, none⟩) 2 cap] 33)) (w.heap.size + 1) (by simp), (Below.refl _ _).alloc (by simp) _⟩
  case round =>
    obtain ⟨i, c, q, hi, rfl, rfl, hown, hbel⟩ := hrel
    have hz := hbel.size
    simp at hz
    obtain ⟨⟨x0, x1⟩, hkw, hkw2, _, y0, _⟩ := CF.out wr hbel
    have HOWN := hid hown
    have HBE := hid hbel
    by_cases hlt : i < 1
    · obtain ⟨o, ho⟩ : ∃ o, os[i]? = some o := ⟨_, List.getElem?_eq_getElem (by rw [HOL.out]; exact hlt)⟩
      have ca := hkw.out.cell (HA.out (i + 1) (by omega))
      have cb := hkw.out.cell (HB.out (i + 1) (by omega))
      have d2 : (i : Int) + 1 < 2 := by omega
      have d2' : i + 1 < 2 := by omega
      have HC := hid (HK.out i o ho wr hkw2.out (by omega))
      have htk : (os.take (i + 1)).map txt7 = (os.take i).map txt7 ++ [txt7 o] := by rw [List.take_add_one, ho]; simp
      obtain ⟨X, hX⟩ : ∃ X, txt7 o = X := ⟨_, rfl⟩
      rw [hX] at HC htk
      have HTK := hid htk
      clear ho hX htk hown hbel hkw hkw2
      go_wp2_with (first | (at_builtin; refine wpList_append_at _ rfl (.tmp 70) (.tmp 78) 36 rfl (w.heap.size + 1) 9 i0 (.string ByteArray.empty) 1 16 Tryd.underlying36 hi0 hz0 hz1 hz2 rfl (by decide) (.slice q i c) i _ rfl (HO1.out.alloc _) ⟨w1'.heap.size, 0, none⟩ 1 1 [.string X] rfl rfl (cells_new1 _ _ _ _ rfl) (by intro u hu; simp at hu; subst hu; rfl) (by decide) (by unfold maxLen; omega) (by omega) (by simp; omega) ?_; intro v' w2 hown2 hg2 hw2 hv2; obtain ⟨g2, kc2, rfl⟩ := hv2; have HG := hid hg2; have HO := hid hown2; clear hg2 hown2 hw2) | (go_at_call 11; refine HC.out.mono ?_; rintro r w1' ⟨rfl, hb1⟩; have HB1 := hid hb1; have HO1 := hid (ownsRow_under HOWN.out hb1); have s1 := hb1.size; clear hb1))
      go_roundw
      case rel => exact ⟨i + 1, kc2, some ⟨g2, 0, none⟩, by omega, by go_num, rfl, by rw [HTK.out, List.map_append]; exact HO.out, ((HBE.out.trans (HB1.out.mono (by omega))).alloc (by omega) _).grown HG.out (by simp; omega) (fun k e => (HOWN.out.lt k e).1)⟩
      case measure => simp [intOf]; omega
    · have hin : i = 1 := by omega
      subst hin
      have htk : os.take 1 = os := List.take_of_length_le (by rw [HOL.out]; omega)
      rw [htk] at hown
      have HSVL := hid (sv_own hown)
      have HR := hid (own_row hown)
      have HBW := hid (((Below.refl w.heap.size w).alloc (Nat.le_refl _) _).trans (hbel.mono (by omega)))
      have HHS := hid (l2Has_any ({ data := #[] } : ByteArray) (os.map txt7) q 1 c wr (sv_own hown) (by decide))
      have hhb : hasB (os.map txt7) ({ data := #[] } : ByteArray).toList = os.any Option.isNone := hasB_any os
      rw [hhb] at HHS
      clear hhb htk hown HOWN HCL hkw hkw2
      cases hB : os.any Option.isNone with
      | true =>
        have HRN := hid (show Y = ByteArray.empty by rw [← HYE.out, HNO.out hB]; rfl)
        rw [hB] at HHS
        go_wp2_with (go_at_call 19; refine HHS.out.mono ?_; rintro r w2 ⟨rfl, rfl⟩)
        go_ret
        exact ⟨ret_str HRN.out.symm, HBW.out⟩
      | false =>
        rw [hB] at HHS
        have hos := HTF.out
        subst hos
        have HNN := HN.out
        clear HN HTF HNO HK
        obtain ⟨s0, rfl⟩ : ∃ s, o0 = some s := by cases o0 with | none => simp at hB | some s => exact ⟨s, rfl⟩
        have n0 := HNN (some s0) (by simp) s0 rfl
        obtain ⟨g, rfl, _, e0⟩ := HR.out 0 _ rfl
        clear HR HNN HSVL hB 
        have HP := hid (fun W => l7Part_any (some s0) (fun s h => by simp at h; subst h; exact n0) 42 2 (by omega) W)
        have HRES := hid (tySnd_part s0)
        rw [← HRES.out] at HP
        obtain ⟨X, hX⟩ : ∃ X, txt7 (some s0) = X := ⟨_, rfl⟩
        rw [hX] at HP e0
        rw [HYE.out] at HP
        clear hX HRES HYE
        go_wp2_with (first | (go_at_call 24; refine (HP.out _).mono ?_; rintro r w3 ⟨rfl, hb3⟩) | (go_at_call 19; refine HHS.out.mono ?_; rintro r w2 ⟨rfl, rfl⟩))
        go_ret
        exact ⟨rfl, HBW.out.trans (hb3.mono HBW.out.size)⟩

set_option maxRecDepth 100000 in
set_option maxHeartbeats 4000000 in
theorem ty7_put {w0 w : World} {b cap : Nat} {A : Nat → Hd} {np tp : Option Addr} {n nc tc : Nat} (hcap : 2 ≤ cap ∧ cap ≤ maxLen) (hk : Kept w0 w) (hw : w0.heap.size ≤ w.heap.size) (hh : (A 0).a.toList = [112, 117, 116])
    (hA : ∀ i, i < 2 → w0.cell? ⟨b, i * 2, none⟩ = some (.string (A i).a)) (hB : ∀ i, i < 2 → w0.cell? ⟨b, i * 2 + 1, none⟩ = some (.slice (A i).p (A i).l (A i).c)) (os : List (Option STy)) (o0 : Option STy) (hos : os = [o0]) (hn : ∀ o ∈ os, ∀ s, o = some s → s.n ≤ 12)
    (K : ∀ i o, os[i]? = some o → ∀ W, Kept w W → w.heap.size ≤ W.heap.size → Calls Tryd.prog 11 #[.agg #[.string (A (i + 1)).a, .slice (A (i + 1)).p (A (i + 1)).l (A (i + 1)).c], .slice np n nc, .slice tp n tc] W fun e w' => e = .returned (.string (txt7 o)) ∧ Below W.heap.size W w') :
    Calls Tryd.prog 11 #[.agg #[.string ByteArray.empty, .slice (some ⟨b, 0, none⟩) 2 cap], .slice np n nc, .slice tp n tc] w fun e w' => e = .returned (.string (txt7 (tyPut7 o0))) ∧ Below w.heap.size w w' := by
  have hmc : cap ≤ 9223372036854775807 := by have := hcap.2; unfold maxLen at this; omega
  have hcap4 : 2 ≤ cap := hcap.1
  have HOL := hid (show os.length = 1 by rw [hos]; rfl)
  have HNO := hid (fun (h : os.any Option.isNone = true) => (show tyPut7 o0 = none from by rw [hos] at h; exact tyPut7_none h))
  have HK := hid K
  have HA := hid hA
  have HB := hid hB
  have hA0 := hA 0 (by omega)
  have hA0' : w0.cell? ⟨b, 0, none⟩ = some (.string (A 0).a) := by simpa using hA0
  have CF := hid (fun W (hb : Below (w.heap.size + 1) (w.alloc (.cells #[.string ByteArray.empty, .slice (some ⟨b, 0, none⟩) 2 cap] 33)) W) => (show (W.cell? ⟨w.heap.size, 0, none⟩ = some (.string ByteArray.empty) ∧ W.cell? ⟨w.heap.size, 1, none⟩ = some (.slice (some ⟨b, 0, none⟩) 2 cap)) ∧ Hid (Kept w0 W) ∧ Hid (Kept w W) ∧ True ∧ W.cell? ⟨b, 0, none⟩ = some (.string (A 0).a) ∧ True from by
    have c := cells_of_pair (block_below (heap_new w (.cells #[.string ByteArray.empty, .slice (some ⟨b, 0, none⟩) 2 cap] 33) w.heap.size rfl) hb (by simp))
    have k2 : Kept w W := ((Kept.refl w).alloc (Nat.le_refl _) _).below hb (by omega)
    have k1 : Kept w0 W := (hk.alloc hw _).below hb (by omega)
    exact ⟨⟨c.1, c.2.1⟩, hid k1, hid k2, trivial, k1.cell hA0', trivial⟩))
  obtain ⟨⟨z0, z1⟩, _, _, _, z2, _⟩ := CF.out _ (Below.refl _ _)
  obtain ⟨i0, hi0, hz0, hz1, hz2⟩ := info_parts Tryd.infoStr
  have HCL := hid hcap
  obtain ⟨Y, hY⟩ : ∃ Y, txt7 (tyPut7 o0) = Y := ⟨_, rfl⟩
  rw [hY]
  have HYE := hid hY
  clear hY
  have t0 : ((A 0).a.toList == [103, 101, 116]) = false := by rw [hh]; rfl
  have t1 : ((A 0).a.toList == [102, 97, 105, 108]) = false := by rw [hh]; rfl
  have t2 : ((A 0).a.toList == [108, 97, 109]) = false := by rw [hh]; rfl
  have t3 : ((A 0).a.toList == [97, 112, 112]) = false := by rw [hh]; rfl
  have t4 : ((A 0).a.toList == [105, 102]) = false := by rw [hh]; rfl
  have t5 : ((A 0).a.toList == [112, 97, 105, 114]) = false := by rw [hh]; rfl
  have t6 : ((A 0).a.toList == [102, 115, 116]) = false := by rw [hh]; rfl
  have t7 : ((A 0).a.toList == [115, 110, 100]) = false := by rw [hh]; rfl
  have t8 : ((A 0).a.toList == [112, 117, 116]) = true := by rw [hh]; rfl
  have HTF := hid hos
  have HN := hid hn
  clear hA hB hk hw hh hcap K hA0 hA0' hos hn
  go_enter Tryd.func11, Tryd.ntmps11
  go_wp2_with fail
  go_loopw [10, 11] (fun v u wr => ∃ (i c : Nat) (q : Option Addr), i ≤ 1 ∧ u = .int .i64 ((i : Int) + 1) ∧ v = .slice q i c ∧ wr.ownsRow (w.heap.size + 1) 9 1 (.slice q i c) i (((os.take i).map txt7).map Value.string) ∧ Below (w.heap.size + 1) (w.alloc (.cells #[.string ByteArray.empty, .slice (some ⟨b, 0, none⟩) 2 cap] 33)) wr) (fun _ u _ => 2 - (intOf u).toNat)
  case atStart => exact ⟨0, 0, some ⟨w.heap.size + 1, 0, none⟩, Nat.zero_le _, rfl, rfl, by simpa using own_empty (w.alloc (.cells #[.string ByteArray.empty, .slice (some ⟨b, 0, none⟩) 2 cap] 33)) (w.heap.size + 1) (by simp), (Below.refl _ _).alloc (by simp) _⟩
  case round =>
    obtain ⟨i, c, q, hi, rfl, rfl, hown, hbel⟩ := hrel
    have hz := hbel.size
    simp at hz
    obtain ⟨⟨x0, x1⟩, hkw, hkw2, _, y0, _⟩ := CF.out wr hbel
    have HOWN := hid hown
    have HBE := hid hbel
    by_cases hlt : i < 1
    · obtain ⟨o, ho⟩ : ∃ o, os[i]? = some o := ⟨_, List.getElem?_eq_getElem (by rw [HOL.out]; exact hlt)⟩
      have ca := hkw.out.cell (HA.out (i + 1) (by omega))
      have cb := hkw.out.cell (HB.out (i + 1) (by omega))
      have d2 : (i : Int) + 1 < 2 := by omega
      have d2' : i + 1 < 2 := by omega
      have HC := hid (HK.out i o ho wr hkw2.out (by omega))
      have htk : (os.take (i + 1)).map txt7 = (os.take i).map txt7 ++ [txt7 o] := by rw [List.take_add_one, ho]; simp
      obtain ⟨X, hX⟩ : ∃ X, txt7 o = X := ⟨_, rfl⟩
      rw [hX] at HC htk
      have HTK := hid htk
      clear ho hX htk hown hbel hkw hkw2
      go_wp2_with (first | (at_builtin; refine wpList_append_at _ rfl (.tmp 70) (.tmp 78) 36 rfl (w.heap.size + 1) 9 i0 (.string ByteArray.empty) 1 16 Tryd.underlying36 hi0 hz0 hz1 hz2 rfl (by decide) (.slice q i c) i _ rfl (HO1.out.alloc _) ⟨w1'.heap.size, 0, none⟩ 1 1 [.string X] rfl rfl (cells_new1 _ _ _ _ rfl) (by intro u hu; simp at hu; subst hu; rfl) (by decide) (by unfold maxLen; omega) (by omega) (by simp; omega) ?_; intro v' w2 hown2 hg2 hw2 hv2; obtain ⟨g2, kc2, rfl⟩ := hv2; have HG := hid hg2; have HO := hid hown2; clear hg2 hown2 hw2) | (go_at_call 11; refine HC.out.mono ?_; rintro r w1' ⟨rfl, hb1⟩; have HB1 := hid hb1; have HO1 := hid (ownsRow_under HOWN.out hb1); have s1 := hb1.size; clear hb1))
      go_roundw
      case rel => exact ⟨i + 1, kc2, some ⟨g2, 0, none⟩, by omega, by go_num, rfl, by rw [HTK.out, List.map_append]; exact HO.out, ((HBE.out.trans (HB1.out.mono (by omega))).alloc (by omega) _).grown HG.out (by simp; omega) (fun k e => (HOWN.out.lt k e).1)⟩
      case measure => simp [intOf]; omega
    · have hin : i = 1 := by omega
      subst hin
      have htk : os.take 1 = os := List.take_of_length_le (by rw [HOL.out]; omega)
      rw [htk] at hown
      have HSVL := hid (sv_own hown)
      have HR := hid (own_row hown)
      have HBW := hid (((Below.refl w.heap.size w).alloc (Nat.le_refl _) _).trans (hbel.mono (by omega)))
      have HHS := hid (l2Has_any ({ data := #[] } : ByteArray) (os.map txt7) q 1 c wr (sv_own hown) (by decide))
      have hhb : hasB (os.map txt7) ({ data := #[] } : ByteArray).toList = os.any Option.isNone := hasB_any os
      rw [hhb] at HHS
      clear hhb htk hown HOWN HCL hkw hkw2
      cases hB : os.any Option.isNone with
      | true =>
        have HRN := hid (show Y = ByteArray.empty by rw [← HYE.out, HNO.out hB]; rfl)
        rw [hB] at HHS
        go_wp2_with (go_at_call 19; refine HHS.out.mono ?_; rintro r w2 ⟨rfl, rfl⟩)
        go_ret
        exact ⟨ret_str HRN.out.symm, HBW.out⟩
      | false =>
        rw [hB] at HHS
        have hos := HTF.out
        subst hos
        have HNN := HN.out
        clear HN HTF HNO HK
        obtain ⟨s0, rfl⟩ : ∃ s, o0 = some s := by cases o0 with | none => simp at hB | some s => exact ⟨s, rfl⟩
        have n0 := HNN (some s0) (by simp) s0 rfl
        obtain ⟨g, rfl, _, e0⟩ := HR.out 0 _ rfl
        clear HR HNN HSVL hB 
        have HP := hid (fun W => l3Same_any (txt7 (some s0)) ({ data := #[98] } : ByteArray) W)
        have HRES := hid (tyPut_same s0)
        rw [HRES.out] at HP
        obtain ⟨X, hX⟩ : ∃ X, txt7 (some s0) = X := ⟨_, rfl⟩
        rw [hX] at HP e0
        rw [HYE.out] at HP
        clear hX HRES HYE
        go_wp2_with (first | (go_at_call 25; refine (HP.out _).mono ?_; rintro r w3 ⟨rfl, rfl⟩) | (go_at_call 19; refine HHS.out.mono ?_; rintro r w2 ⟨rfl, rfl⟩))
        go_ret
        exact ⟨rfl, HBW.out⟩

set_option maxRecDepth 100000 in
set_option maxHeartbeats 4000000 in
theorem ty7_pair {w0 w : World} {b cap : Nat} {A : Nat → Hd} {np tp : Option Addr} {n nc tc : Nat} (hcap : 3 ≤ cap ∧ cap ≤ maxLen) (hk : Kept w0 w) (hw : w0.heap.size ≤ w.heap.size) (hh : (A 0).a.toList = [112, 97, 105, 114])
    (hA : ∀ i, i < 3 → w0.cell? ⟨b, i * 2, none⟩ = some (.string (A i).a)) (hB : ∀ i, i < 3 → w0.cell? ⟨b, i * 2 + 1, none⟩ = some (.slice (A i).p (A i).l (A i).c)) (os : List (Option STy)) (o0 o1 : Option STy) (hos : os = [o0, o1]) (hn : ∀ o ∈ os, ∀ s, o = some s → s.n ≤ 12)
    (K : ∀ i o, os[i]? = some o → ∀ W, Kept w W → w.heap.size ≤ W.heap.size → Calls Tryd.prog 11 #[.agg #[.string (A (i + 1)).a, .slice (A (i + 1)).p (A (i + 1)).l (A (i + 1)).c], .slice np n nc, .slice tp n tc] W fun e w' => e = .returned (.string (txt7 o)) ∧ Below W.heap.size W w') :
    Calls Tryd.prog 11 #[.agg #[.string ByteArray.empty, .slice (some ⟨b, 0, none⟩) 3 cap], .slice np n nc, .slice tp n tc] w fun e w' => e = .returned (.string (txt7 (tyPair7 o0 o1))) ∧ Below w.heap.size w w' := by
  have hmc : cap ≤ 9223372036854775807 := by have := hcap.2; unfold maxLen at this; omega
  have hcap4 : 3 ≤ cap := hcap.1
  have HOL := hid (show os.length = 2 by rw [hos]; rfl)
  have HNO := hid (fun (h : os.any Option.isNone = true) => (show tyPair7 o0 o1 = none from by rw [hos] at h; exact tyPair7_none h))
  have HK := hid K
  have HA := hid hA
  have HB := hid hB
  have hA0 := hA 0 (by omega)
  have hA0' : w0.cell? ⟨b, 0, none⟩ = some (.string (A 0).a) := by simpa using hA0
  have CF := hid (fun W (hb : Below (w.heap.size + 1) (w.alloc (.cells #[.string ByteArray.empty, .slice (some ⟨b, 0, none⟩) 3 cap] 33)) W) => (show (W.cell? ⟨w.heap.size, 0, none⟩ = some (.string ByteArray.empty) ∧ W.cell? ⟨w.heap.size, 1, none⟩ = some (.slice (some ⟨b, 0, none⟩) 3 cap)) ∧ Hid (Kept w0 W) ∧ Hid (Kept w W) ∧ True ∧ W.cell? ⟨b, 0, none⟩ = some (.string (A 0).a) ∧ True from by
    have c := cells_of_pair (block_below (heap_new w (.cells #[.string ByteArray.empty, .slice (some ⟨b, 0, none⟩) 3 cap] 33) w.heap.size rfl) hb (by simp))
    have k2 : Kept w W := ((Kept.refl w).alloc (Nat.le_refl _) _).below hb (by omega)
    have k1 : Kept w0 W := (hk.alloc hw _).below hb (by omega)
    exact ⟨⟨c.1, c.2.1⟩, hid k1, hid k2, trivial, k1.cell hA0', trivial⟩))
  obtain ⟨⟨z0, z1⟩, _, _, _, z2, _⟩ := CF.out _ (Below.refl _ _)
  obtain ⟨i0, hi0, hz0, hz1, hz2⟩ := info_parts Tryd.infoStr
  have HCL := hid hcap
  obtain ⟨Y, hY⟩ : ∃ Y, txt7 (tyPair7 o0 o1) = Y := ⟨_, rfl⟩
  rw [hY]
  have HYE := hid hY
  clear hY
  have t0 : ((A 0).a.toList == [103, 101, 116]) = false := by rw [hh]; rfl
  have t1 : ((A 0).a.toList == [102, 97, 105, 108]) = false := by rw [hh]; rfl
  have t2 : ((A 0).a.toList == [108, 97, 109]) = false := by rw [hh]; rfl
  have t3 : ((A 0).a.toList == [97, 112, 112]) = false := by rw [hh]; rfl
  have t4 : ((A 0).a.toList == [105, 102]) = false := by rw [hh]; rfl
  have t5 : ((A 0).a.toList == [112, 97, 105, 114]) = true := by rw [hh]; rfl
  have HTF := hid hos
  have HN := hid hn
  clear hA hB hk hw hh hcap K hA0 hA0' hos hn
  go_enter Tryd.func11, Tryd.ntmps11
  go_wp2_with fail
  go_loopw [10, 11] (fun v u wr => ∃ (i c : Nat) (q : Option Addr), i ≤ 2 ∧ u = .int .i64 ((i : Int) + 1) ∧ v = .slice q i c ∧ wr.ownsRow (w.heap.size + 1) 9 1 (.slice q i c) i (((os.take i).map txt7).map Value.string) ∧ Below (w.heap.size + 1) (w.alloc (.cells #[.string ByteArray.empty, .slice (some ⟨b, 0, none⟩) 3 cap] 33)) wr) (fun _ u _ => 3 - (intOf u).toNat)
  case atStart => exact ⟨0, 0, some ⟨w.heap.size + 1, 0, none⟩, Nat.zero_le _, rfl, rfl, by simpa using own_empty (w.alloc (.cells #[.string ByteArray.empty, .slice (some ⟨b, 0, none⟩) 3 cap] 33)) (w.heap.size + 1) (by simp), (Below.refl _ _).alloc (by simp) _⟩
  case round =>
    obtain ⟨i, c, q, hi, rfl, rfl, hown, hbel⟩ := hrel
    have hz := hbel.size
    simp at hz
    obtain ⟨⟨x0, x1⟩, hkw, hkw2, _, y0, _⟩ := CF.out wr hbel
    have HOWN := hid hown
    have HBE := hid hbel
    by_cases hlt : i < 2
    · obtain ⟨o, ho⟩ : ∃ o, os[i]? = some o := ⟨_, List.getElem?_eq_getElem (by rw [HOL.out]; exact hlt)⟩
      have ca := hkw.out.cell (HA.out (i + 1) (by omega))
      have cb := hkw.out.cell (HB.out (i + 1) (by omega))
      have d2 : (i : Int) + 1 < 3 := by omega
      have d2' : i + 1 < 3 := by omega
      have HC := hid (HK.out i o ho wr hkw2.out (by omega))
      have htk : (os.take (i + 1)).map txt7 = (os.take i).map txt7 ++ [txt7 o] := by rw [List.take_add_one, ho]; simp
      obtain ⟨X, hX⟩ : ∃ X, txt7 o = X := ⟨_, rfl⟩
      rw [hX] at HC htk
      have HTK := hid htk
      clear ho hX htk hown hbel hkw hkw2
      go_wp2_with (first | (at_builtin; refine wpList_append_at _ rfl (.tmp 70) (.tmp 78) 36 rfl (w.heap.size + 1) 9 i0 (.string ByteArray.empty) 1 16 Tryd.underlying36 hi0 hz0 hz1 hz2 rfl (by decide) (.slice q i c) i _ rfl (HO1.out.alloc _) ⟨w1'.heap.size, 0, none⟩ 1 1 [.string X] rfl rfl (cells_new1 _ _ _ _ rfl) (by intro u hu; simp at hu; subst hu; rfl) (by decide) (by unfold maxLen; omega) (by omega) (by simp; omega) ?_; intro v' w2 hown2 hg2 hw2 hv2; obtain ⟨g2, kc2, rfl⟩ := hv2; have HG := hid hg2; have HO := hid hown2; clear hg2 hown2 hw2) | (go_at_call 11; refine HC.out.mono ?_; rintro r w1' ⟨rfl, hb1⟩; have HB1 := hid hb1; have HO1 := hid (ownsRow_under HOWN.out hb1); have s1 := hb1.size; clear hb1))
      go_roundw
      case rel => exact ⟨i + 1, kc2, some ⟨g2, 0, none⟩, by omega, by go_num, rfl, by rw [HTK.out, List.map_append]; exact HO.out, ((HBE.out.trans (HB1.out.mono (by omega))).alloc (by omega) _).grown HG.out (by simp; omega) (fun k e => (HOWN.out.lt k e).1)⟩
      case measure => simp [intOf]; omega
    · have hin : i = 2 := by omega
      subst hin
      have htk : os.take 2 = os := List.take_of_length_le (by rw [HOL.out]; omega)
      rw [htk] at hown
      have HSVL := hid (sv_own hown)
      have HR := hid (own_row hown)
      have HBW := hid (((Below.refl w.heap.size w).alloc (Nat.le_refl _) _).trans (hbel.mono (by omega)))
      have HHS := hid (l2Has_any ({ data := #[] } : ByteArray) (os.map txt7) q 2 c wr (sv_own hown) (by decide))
      have hhb : hasB (os.map txt7) ({ data := #[] } : ByteArray).toList = os.any Option.isNone := hasB_any os
      rw [hhb] at HHS
      clear hhb htk hown HOWN HCL hkw hkw2
      cases hB : os.any Option.isNone with
      | true =>
        have HRN := hid (show Y = ByteArray.empty by rw [← HYE.out, HNO.out hB]; rfl)
        rw [hB] at HHS
        go_wp2_with (go_at_call 19; refine HHS.out.mono ?_; rintro r w2 ⟨rfl, rfl⟩)
        go_ret
        exact ⟨ret_str HRN.out.symm, HBW.out⟩
      | false =>
        rw [hB] at HHS
        have hos := HTF.out
        subst hos
        have HNN := HN.out
        clear HN HTF HNO HK
        obtain ⟨s0, rfl⟩ : ∃ s, o0 = some s := by cases o0 with | none => simp at hB | some s => exact ⟨s, rfl⟩
        have n0 := HNN (some s0) (by simp) s0 rfl
        obtain ⟨s1, rfl⟩ : ∃ s, o1 = some s := by cases o1 with | none => simp at hB | some s => exact ⟨s, rfl⟩
        have n1 := HNN (some s1) (by simp) s1 rfl
        obtain ⟨g, rfl, _, e0⟩ := HR.out 0 _ rfl
        obtain ⟨g1, hg1, _, e1⟩ := HR.out 1 _ rfl
        obtain rfl : g = g1 := by simpa using hg1
        clear HR HNN HSVL hB hg1
        have HP := hid (fun W => l7Make_pair s0 s1 n0 n1 W)
        rw [show txt7 (lim12 (some (STy.pair s0 s1))) = txt7 (tyPair7 (some s0) (some s1)) from rfl] at HP
        rw [show s0.tree.txt = txt7 (some s0) from rfl, show s1.tree.txt = txt7 (some s1) from rfl] at HP
        obtain ⟨X, hX⟩ : ∃ X, txt7 (some s0) = X := ⟨_, rfl⟩
        obtain ⟨X1, hX1⟩ : ∃ X, txt7 (some s1) = X := ⟨_, rfl⟩
        rw [hX] at HP e0
        rw [hX1] at HP e1
        rw [HYE.out] at HP
        clear hX hX1 HYE
        have KB := hid (fun W (hb : Below wr.heap.size wr W) => (show W.cell? ⟨g, 0, none⟩ = some (.string X) ∧ W.cell? ⟨g, 1, none⟩ = some (.string X1) from by
          have kk := Kept.of_below hb (Nat.le_refl _)
          exact ⟨kk.cell e0, kk.cell e1⟩))
        go_wp2_with (go_at_call 19; refine HHS.out.mono ?_; rintro r w2 ⟨rfl, rfl⟩)
        go_region_held3 (fun w' => w'.cell? ⟨g, 0, none⟩ = some (.string X) ∧ w'.cell? ⟨g, 1, none⟩ = some (.string X1))
          (first | exact ⟨e0, e1⟩ | exact e5)
          ((go_at_call 23; refine (HP.out _).mono ?_; rintro r w3 ⟨rfl, hb3⟩; have hb03 := below_nx hb3 ((Below.refl _ wr).drew); have e5 := KB.out _ hb03; have HB3 := hid hb03; clear hb3 hb03))
        go_wp2_with fail
        go_ret
        exact ⟨rfl, HBW.out.trans (HB3.out.mono HBW.out.size)⟩

set_option maxRecDepth 100000 in
set_option maxHeartbeats 4000000 in
theorem ty7_if {w0 w : World} {b cap : Nat} {A : Nat → Hd} {np tp : Option Addr} {n nc tc : Nat} (hcap : 4 ≤ cap ∧ cap ≤ maxLen) (hk : Kept w0 w) (hw : w0.heap.size ≤ w.heap.size) (hh : (A 0).a.toList = [105, 102])
    (hA : ∀ i, i < 4 → w0.cell? ⟨b, i * 2, none⟩ = some (.string (A i).a)) (hB : ∀ i, i < 4 → w0.cell? ⟨b, i * 2 + 1, none⟩ = some (.slice (A i).p (A i).l (A i).c)) (os : List (Option STy)) (o0 o1 o2 : Option STy) (hos : os = [o0, o1, o2]) (hn : ∀ o ∈ os, ∀ s, o = some s → s.n ≤ 12)
    (K : ∀ i o, os[i]? = some o → ∀ W, Kept w W → w.heap.size ≤ W.heap.size → Calls Tryd.prog 11 #[.agg #[.string (A (i + 1)).a, .slice (A (i + 1)).p (A (i + 1)).l (A (i + 1)).c], .slice np n nc, .slice tp n tc] W fun e w' => e = .returned (.string (txt7 o)) ∧ Below W.heap.size W w') :
    Calls Tryd.prog 11 #[.agg #[.string ByteArray.empty, .slice (some ⟨b, 0, none⟩) 4 cap], .slice np n nc, .slice tp n tc] w fun e w' => e = .returned (.string (txt7 (tyIf7 o0 o1 o2))) ∧ Below w.heap.size w w' := by
  have hmc : cap ≤ 9223372036854775807 := by have := hcap.2; unfold maxLen at this; omega
  have hcap4 : 4 ≤ cap := hcap.1
  have HOL := hid (show os.length = 3 by rw [hos]; rfl)
  have HNO := hid (fun (h : os.any Option.isNone = true) => (show tyIf7 o0 o1 o2 = none from by rw [hos] at h; exact tyIf7_none h))
  have HK := hid K
  have HA := hid hA
  have HB := hid hB
  have hA0 := hA 0 (by omega)
  have hA0' : w0.cell? ⟨b, 0, none⟩ = some (.string (A 0).a) := by simpa using hA0
  have CF := hid (fun W (hb : Below (w.heap.size + 1) (w.alloc (.cells #[.string ByteArray.empty, .slice (some ⟨b, 0, none⟩) 4 cap] 33)) W) => (show (W.cell? ⟨w.heap.size, 0, none⟩ = some (.string ByteArray.empty) ∧ W.cell? ⟨w.heap.size, 1, none⟩ = some (.slice (some ⟨b, 0, none⟩) 4 cap)) ∧ Hid (Kept w0 W) ∧ Hid (Kept w W) ∧ True ∧ W.cell? ⟨b, 0, none⟩ = some (.string (A 0).a) ∧ True from by
    have c := cells_of_pair (block_below (heap_new w (.cells #[.string ByteArray.empty, .slice (some ⟨b, 0, none⟩) 4 cap] 33) w.heap.size rfl) hb (by simp))
    have k2 : Kept w W := ((Kept.refl w).alloc (Nat.le_refl _) _).below hb (by omega)
    have k1 : Kept w0 W := (hk.alloc hw _).below hb (by omega)
    exact ⟨⟨c.1, c.2.1⟩, hid k1, hid k2, trivial, k1.cell hA0', trivial⟩))
  obtain ⟨⟨z0, z1⟩, _, _, _, z2, _⟩ := CF.out _ (Below.refl _ _)
  obtain ⟨i0, hi0, hz0, hz1, hz2⟩ := info_parts Tryd.infoStr
  have HCL := hid hcap
  obtain ⟨Y, hY⟩ : ∃ Y, txt7 (tyIf7 o0 o1 o2) = Y := ⟨_, rfl⟩
  rw [hY]
  have HYE := hid hY
  clear hY
  have t0 : ((A 0).a.toList == [103, 101, 116]) = false := by rw [hh]; rfl
  have t1 : ((A 0).a.toList == [102, 97, 105, 108]) = false := by rw [hh]; rfl
  have t2 : ((A 0).a.toList == [108, 97, 109]) = false := by rw [hh]; rfl
  have t3 : ((A 0).a.toList == [97, 112, 112]) = false := by rw [hh]; rfl
  have t4 : ((A 0).a.toList == [105, 102]) = true := by rw [hh]; rfl
  have HTF := hid hos
  have HN := hid hn
  clear hA hB hk hw hh hcap K hA0 hA0' hos hn
  go_enter Tryd.func11, Tryd.ntmps11
  go_wp2_with fail
  go_loopw [10, 11] (fun v u wr => ∃ (i c : Nat) (q : Option Addr), i ≤ 3 ∧ u = .int .i64 ((i : Int) + 1) ∧ v = .slice q i c ∧ wr.ownsRow (w.heap.size + 1) 9 1 (.slice q i c) i (((os.take i).map txt7).map Value.string) ∧ Below (w.heap.size + 1) (w.alloc (.cells #[.string ByteArray.empty, .slice (some ⟨b, 0, none⟩) 4 cap] 33)) wr) (fun _ u _ => 4 - (intOf u).toNat)
  case atStart => exact ⟨0, 0, some ⟨w.heap.size + 1, 0, none⟩, Nat.zero_le _, rfl, rfl, by simpa using own_empty (w.alloc (.cells #[.string ByteArray.empty, .slice (some ⟨b, 0, none⟩) 4 cap] 33)) (w.heap.size + 1) (by simp), (Below.refl _ _).alloc (by simp) _⟩
  case round =>
    obtain ⟨i, c, q, hi, rfl, rfl, hown, hbel⟩ := hrel
    have hz := hbel.size
    simp at hz
    obtain ⟨⟨x0, x1⟩, hkw, hkw2, _, y0, _⟩ := CF.out wr hbel
    have HOWN := hid hown
    have HBE := hid hbel
    by_cases hlt : i < 3
    · obtain ⟨o, ho⟩ : ∃ o, os[i]? = some o := ⟨_, List.getElem?_eq_getElem (by rw [HOL.out]; exact hlt)⟩
      have ca := hkw.out.cell (HA.out (i + 1) (by omega))
      have cb := hkw.out.cell (HB.out (i + 1) (by omega))
      have d2 : (i : Int) + 1 < 4 := by omega
      have d2' : i + 1 < 4 := by omega
      have HC := hid (HK.out i o ho wr hkw2.out (by omega))
      have htk : (os.take (i + 1)).map txt7 = (os.take i).map txt7 ++ [txt7 o] := by rw [List.take_add_one, ho]; simp
      obtain ⟨X, hX⟩ : ∃ X, txt7 o = X := ⟨_, rfl⟩
      rw [hX] at HC htk
      have HTK := hid htk
      clear ho hX htk hown hbel hkw hkw2
      go_wp2_with (first | (at_builtin; refine wpList_append_at _ rfl (.tmp 70) (.tmp 78) 36 rfl (w.heap.size + 1) 9 i0 (.string ByteArray.empty) 1 16 Tryd.underlying36 hi0 hz0 hz1 hz2 rfl (by decide) (.slice q i c) i _ rfl (HO1.out.alloc _) ⟨w1'.heap.size, 0, none⟩ 1 1 [.string X] rfl rfl (cells_new1 _ _ _ _ rfl) (by intro u hu; simp at hu; subst hu; rfl) (by decide) (by unfold maxLen; omega) (by omega) (by simp; omega) ?_; intro v' w2 hown2 hg2 hw2 hv2; obtain ⟨g2, kc2, rfl⟩ := hv2; have HG := hid hg2; have HO := hid hown2; clear hg2 hown2 hw2) | (go_at_call 11; refine HC.out.mono ?_; rintro r w1' ⟨rfl, hb1⟩; have HB1 := hid hb1; have HO1 := hid (ownsRow_under HOWN.out hb1); have s1 := hb1.size; clear hb1))
      go_roundw
      case rel => exact ⟨i + 1, kc2, some ⟨g2, 0, none⟩, by omega, by go_num, rfl, by rw [HTK.out, List.map_append]; exact HO.out, ((HBE.out.trans (HB1.out.mono (by omega))).alloc (by omega) _).grown HG.out (by simp; omega) (fun k e => (HOWN.out.lt k e).1)⟩
      case measure => simp [intOf]; omega
    · have hin : i = 3 := by omega
      subst hin
      have htk : os.take 3 = os := List.take_of_length_le (by rw [HOL.out]; omega)
      rw [htk] at hown
      have HSVL := hid (sv_own hown)
      have HR := hid (own_row hown)
      have HBW := hid (((Below.refl w.heap.size w).alloc (Nat.le_refl _) _).trans (hbel.mono (by omega)))
      have HHS := hid (l2Has_any ({ data := #[] } : ByteArray) (os.map txt7) q 3 c wr (sv_own hown) (by decide))
      have hhb : hasB (os.map txt7) ({ data := #[] } : ByteArray).toList = os.any Option.isNone := hasB_any os
      rw [hhb] at HHS
      clear hhb htk hown HOWN HCL hkw hkw2
      cases hB : os.any Option.isNone with
      | true =>
        have HRN := hid (show Y = ByteArray.empty by rw [← HYE.out, HNO.out hB]; rfl)
        rw [hB] at HHS
        go_wp2_with (go_at_call 19; refine HHS.out.mono ?_; rintro r w2 ⟨rfl, rfl⟩)
        go_ret
        exact ⟨ret_str HRN.out.symm, HBW.out⟩
      | false =>
        rw [hB] at HHS
        have hos := HTF.out
        subst hos
        have HNN := HN.out
        clear HN HTF HNO HK
        obtain ⟨s0, rfl⟩ : ∃ s, o0 = some s := by cases o0 with | none => simp at hB | some s => exact ⟨s, rfl⟩
        have n0 := HNN (some s0) (by simp) s0 rfl
        obtain ⟨s1, rfl⟩ : ∃ s, o1 = some s := by cases o1 with | none => simp at hB | some s => exact ⟨s, rfl⟩
        have n1 := HNN (some s1) (by simp) s1 rfl
        obtain ⟨s2, rfl⟩ : ∃ s, o2 = some s := by cases o2 with | none => simp at hB | some s => exact ⟨s, rfl⟩
        have n2 := HNN (some s2) (by simp) s2 rfl
        obtain ⟨g, rfl, _, e0⟩ := HR.out 0 _ rfl
        obtain ⟨g1, hg1, _, e1⟩ := HR.out 1 _ rfl
        obtain rfl : g = g1 := by simpa using hg1
        obtain ⟨g2, hg2, _, e2⟩ := HR.out 2 _ rfl
        obtain rfl : g = g2 := by simpa using hg2
        clear HR HNN HSVL hB hg1 hg2
        have HP := hid (fun W => l3Same_any (txt7 (some s1)) (txt7 (some s2)) W)
        have HRES := hid (tyIf_same s0 s1 s2)
        have hb98 : ((txt7 (some s0)).toList == [98]) = isBit7 s0 := bit7_text s0
        obtain ⟨X, hX⟩ : ∃ X, txt7 (some s0) = X := ⟨_, rfl⟩
        obtain ⟨X1, hX1⟩ : ∃ X, txt7 (some s1) = X := ⟨_, rfl⟩
        obtain ⟨X2, hX2⟩ : ∃ X, txt7 (some s2) = X := ⟨_, rfl⟩
        rw [hX] at e0 hb98
        rw [hX1] at HP e1 HRES
        rw [hX2] at HP e2 HRES
        rw [HYE.out] at HRES
        have KB := hid (fun W (hb : Below wr.heap.size wr W) => (show W.cell? ⟨g, 0, none⟩ = some (.string X) ∧ W.cell? ⟨g, 1, none⟩ = some (.string X1) ∧ W.cell? ⟨g, 2, none⟩ = some (.string X2) from by
          have kk := Kept.of_below hb (Nat.le_refl _)
          exact ⟨kk.cell e0, kk.cell e1, kk.cell e2⟩))
        cases hbt : isBit7 s0 with
        | false =>
          rw [hbt] at hb98
          have HRN := hid (HRES.out.2 hbt)
          clear hX hX1 hX2 HYE HRES hbt HP KB
          go_wp2_with (go_at_call 19; refine HHS.out.mono ?_; rintro r w2 ⟨rfl, rfl⟩)
          go_ret
          exact ⟨ret_str HRN.out.symm, HBW.out⟩
        | true =>
          rw [hbt] at hb98
          have HRS := hid (HRES.out.1 hbt)
          rw [← HRS.out] at HP
          clear hX hX1 hX2 HYE HRES hbt
          go_wp2_with (go_at_call 19; refine HHS.out.mono ?_; rintro r w2 ⟨rfl, rfl⟩)
          go_region_held3 (fun w' => w'.cell? ⟨g, 0, none⟩ = some (.string X) ∧ w'.cell? ⟨g, 1, none⟩ = some (.string X1) ∧ w'.cell? ⟨g, 2, none⟩ = some (.string X2))
            (first | exact ⟨e0, e1, e2⟩ | exact e5)
            ((go_at_call 25; refine (HP.out _).mono ?_; rintro r w3 ⟨rfl, rfl⟩; have hb03 : Below wr.heap.size wr wr.drew := (Below.refl _ wr).drew; have e5 := KB.out _ hb03; have HB3 := hid hb03; clear hb03))
          go_wp2_with fail
          go_ret
          exact ⟨rfl, HBW.out.trans (HB3.out.mono HBW.out.size)⟩

set_option maxRecDepth 100000 in
set_option maxHeartbeats 4000000 in
theorem ty7_app {w0 w : World} {b cap : Nat} {A : Nat → Hd} {np tp : Option Addr} {n nc tc : Nat} (hcap : 3 ≤ cap ∧ cap ≤ maxLen) (hk : Kept w0 w) (hw : w0.heap.size ≤ w.heap.size) (hh : (A 0).a.toList = [97, 112, 112])
    (hA : ∀ i, i < 3 → w0.cell? ⟨b, i * 2, none⟩ = some (.string (A i).a)) (hB : ∀ i, i < 3 → w0.cell? ⟨b, i * 2 + 1, none⟩ = some (.slice (A i).p (A i).l (A i).c)) (os : List (Option STy)) (o0 o1 : Option STy) (hos : os = [o0, o1]) (hn : ∀ o ∈ os, ∀ s, o = some s → s.n ≤ 12)
    (K : ∀ i o, os[i]? = some o → ∀ W, Kept w W → w.heap.size ≤ W.heap.size → Calls Tryd.prog 11 #[.agg #[.string (A (i + 1)).a, .slice (A (i + 1)).p (A (i + 1)).l (A (i + 1)).c], .slice np n nc, .slice tp n tc] W fun e w' => e = .returned (.string (txt7 o)) ∧ Below W.heap.size W w') :
    Calls Tryd.prog 11 #[.agg #[.string ByteArray.empty, .slice (some ⟨b, 0, none⟩) 3 cap], .slice np n nc, .slice tp n tc] w fun e w' => e = .returned (.string (txt7 (tyApp7 o0 o1))) ∧ Below w.heap.size w w' := by
  have hmc : cap ≤ 9223372036854775807 := by have := hcap.2; unfold maxLen at this; omega
  have hcap4 : 3 ≤ cap := hcap.1
  have HOL := hid (show os.length = 2 by rw [hos]; rfl)
  have HNO := hid (fun (h : os.any Option.isNone = true) => (show tyApp7 o0 o1 = none from by rw [hos] at h; exact tyApp7_none h))
  have HK := hid K
  have HA := hid hA
  have HB := hid hB
  have hA0 := hA 0 (by omega)
  have hA0' : w0.cell? ⟨b, 0, none⟩ = some (.string (A 0).a) := by simpa using hA0
  have CF := hid (fun W (hb : Below (w.heap.size + 1) (w.alloc (.cells #[.string ByteArray.empty, .slice (some ⟨b, 0, none⟩) 3 cap] 33)) W) => (show (W.cell? ⟨w.heap.size, 0, none⟩ = some (.string ByteArray.empty) ∧ W.cell? ⟨w.heap.size, 1, none⟩ = some (.slice (some ⟨b, 0, none⟩) 3 cap)) ∧ Hid (Kept w0 W) ∧ Hid (Kept w W) ∧ True ∧ W.cell? ⟨b, 0, none⟩ = some (.string (A 0).a) ∧ True from by
    have c := cells_of_pair (block_below (heap_new w (.cells #[.string ByteArray.empty, .slice (some ⟨b, 0, none⟩) 3 cap] 33) w.heap.size rfl) hb (by simp))
    have k2 : Kept w W := ((Kept.refl w).alloc (Nat.le_refl _) _).below hb (by omega)
    have k1 : Kept w0 W := (hk.alloc hw _).below hb (by omega)
    exact ⟨⟨c.1, c.2.1⟩, hid k1, hid k2, trivial, k1.cell hA0', trivial⟩))
  obtain ⟨⟨z0, z1⟩, _, _, _, z2, _⟩ := CF.out _ (Below.refl _ _)
  obtain ⟨i0, hi0, hz0, hz1, hz2⟩ := info_parts Tryd.infoStr
  have HCL := hid hcap
  obtain ⟨Y, hY⟩ : ∃ Y, txt7 (tyApp7 o0 o1) = Y := ⟨_, rfl⟩
  rw [hY]
  have HYE := hid hY
  clear hY
  have t0 : ((A 0).a.toList == [103, 101, 116]) = false := by rw [hh]; rfl
  have t1 : ((A 0).a.toList == [102, 97, 105, 108]) = false := by rw [hh]; rfl
  have t2 : ((A 0).a.toList == [108, 97, 109]) = false := by rw [hh]; rfl
  have t3 : ((A 0).a.toList == [97, 112, 112]) = true := by rw [hh]; rfl
  have HTF := hid hos
  have HN := hid hn
  clear hA hB hk hw hh hcap K hA0 hA0' hos hn
  go_enter Tryd.func11, Tryd.ntmps11
  go_wp2_with fail
  go_loopw [10, 11] (fun v u wr => ∃ (i c : Nat) (q : Option Addr), i ≤ 2 ∧ u = .int .i64 ((i : Int) + 1) ∧ v = .slice q i c ∧ wr.ownsRow (w.heap.size + 1) 9 1 (.slice q i c) i (((os.take i).map txt7).map Value.string) ∧ Below (w.heap.size + 1) (w.alloc (.cells #[.string ByteArray.empty, .slice (some ⟨b, 0, none⟩) 3 cap] 33)) wr) (fun _ u _ => 3 - (intOf u).toNat)
  case atStart => exact ⟨0, 0, some ⟨w.heap.size + 1, 0, none⟩, Nat.zero_le _, rfl, rfl, by simpa using own_empty (w.alloc (.cells #[.string ByteArray.empty, .slice (some ⟨b, 0, none⟩) 3 cap] 33)) (w.heap.size + 1) (by simp), (Below.refl _ _).alloc (by simp) _⟩
  case round =>
    obtain ⟨i, c, q, hi, rfl, rfl, hown, hbel⟩ := hrel
    have hz := hbel.size
    simp at hz
    obtain ⟨⟨x0, x1⟩, hkw, hkw2, _, y0, _⟩ := CF.out wr hbel
    have HOWN := hid hown
    have HBE := hid hbel
    by_cases hlt : i < 2
    · obtain ⟨o, ho⟩ : ∃ o, os[i]? = some o := ⟨_, List.getElem?_eq_getElem (by rw [HOL.out]; exact hlt)⟩
      have ca := hkw.out.cell (HA.out (i + 1) (by omega))
      have cb := hkw.out.cell (HB.out (i + 1) (by omega))
      have d2 : (i : Int) + 1 < 3 := by omega
      have d2' : i + 1 < 3 := by omega
      have HC := hid (HK.out i o ho wr hkw2.out (by omega))
      have htk : (os.take (i + 1)).map txt7 = (os.take i).map txt7 ++ [txt7 o] := by rw [List.take_add_one, ho]; simp
      obtain ⟨X, hX⟩ : ∃ X, txt7 o = X := ⟨_, rfl⟩
      rw [hX] at HC htk
      have HTK := hid htk
      clear ho hX htk hown hbel hkw hkw2
      go_wp2_with (first | (at_builtin; refine wpList_append_at _ rfl (.tmp 70) (.tmp 78) 36 rfl (w.heap.size + 1) 9 i0 (.string ByteArray.empty) 1 16 Tryd.underlying36 hi0 hz0 hz1 hz2 rfl (by decide) (.slice q i c) i _ rfl (HO1.out.alloc _) ⟨w1'.heap.size, 0, none⟩ 1 1 [.string X] rfl rfl (cells_new1 _ _ _ _ rfl) (by intro u hu; simp at hu; subst hu; rfl) (by decide) (by unfold maxLen; omega) (by omega) (by simp; omega) ?_; intro v' w2 hown2 hg2 hw2 hv2; obtain ⟨g2, kc2, rfl⟩ := hv2; have HG := hid hg2; have HO := hid hown2; clear hg2 hown2 hw2) | (go_at_call 11; refine HC.out.mono ?_; rintro r w1' ⟨rfl, hb1⟩; have HB1 := hid hb1; have HO1 := hid (ownsRow_under HOWN.out hb1); have s1 := hb1.size; clear hb1))
      go_roundw
      case rel => exact ⟨i + 1, kc2, some ⟨g2, 0, none⟩, by omega, by go_num, rfl, by rw [HTK.out, List.map_append]; exact HO.out, ((HBE.out.trans (HB1.out.mono (by omega))).alloc (by omega) _).grown HG.out (by simp; omega) (fun k e => (HOWN.out.lt k e).1)⟩
      case measure => simp [intOf]; omega
    · have hin : i = 2 := by omega
      subst hin
      have htk : os.take 2 = os := List.take_of_length_le (by rw [HOL.out]; omega)
      rw [htk] at hown
      have HSVL := hid (sv_own hown)
      have HR := hid (own_row hown)
      have HBW := hid (((Below.refl w.heap.size w).alloc (Nat.le_refl _) _).trans (hbel.mono (by omega)))
      have HHS := hid (l2Has_any ({ data := #[] } : ByteArray) (os.map txt7) q 2 c wr (sv_own hown) (by decide))
      have hhb : hasB (os.map txt7) ({ data := #[] } : ByteArray).toList = os.any Option.isNone := hasB_any os
      rw [hhb] at HHS
      clear hhb htk hown HOWN HCL hkw hkw2
      cases hB : os.any Option.isNone with
      | true =>
        have HRN := hid (show Y = ByteArray.empty by rw [← HYE.out, HNO.out hB]; rfl)
        rw [hB] at HHS
        go_wp2_with (go_at_call 19; refine HHS.out.mono ?_; rintro r w2 ⟨rfl, rfl⟩)
        go_ret
        exact ⟨ret_str HRN.out.symm, HBW.out⟩
      | false =>
        rw [hB] at HHS
        have hos := HTF.out
        subst hos
        have HNN := HN.out
        clear HN HTF HNO HK
        obtain ⟨s0, rfl⟩ : ∃ s, o0 = some s := by cases o0 with | none => simp at hB | some s => exact ⟨s, rfl⟩
        have n0 := HNN (some s0) (by simp) s0 rfl
        obtain ⟨s1, rfl⟩ : ∃ s, o1 = some s := by cases o1 with | none => simp at hB | some s => exact ⟨s, rfl⟩
        have n1 := HNN (some s1) (by simp) s1 rfl
        obtain ⟨g, rfl, _, e0⟩ := HR.out 0 _ rfl
        obtain ⟨g1, hg1, _, e1⟩ := HR.out 1 _ rfl
        obtain rfl : g = g1 := by simpa using hg1
        clear HR HNN HSVL hB hg1
        have HP1 := hid (fun W => l7Part_any (some s0) (fun s h => by simp at h; subst h; exact n0) 62 1 (by omega) W)
        have HP2 := hid (fun W => l7Part_any (some s0) (fun s h => by simp at h; subst h; exact n0) 62 2 (by omega) W)
        have HRES := hid (tyApp_part s0 s1)
        obtain ⟨X, hX⟩ : ∃ X, txt7 (some s0) = X := ⟨_, rfl⟩
        obtain ⟨X1, hX1⟩ : ∃ X, txt7 (some s1) = X := ⟨_, rfl⟩
        obtain ⟨Z1, hZ1⟩ : ∃ X, txt7 (part7 (some s0) [62] 1) = X := ⟨_, rfl⟩
        obtain ⟨Z2, hZ2⟩ : ∃ X, txt7 (part7 (some s0) [62] 2) = X := ⟨_, rfl⟩
        rw [hX] at e0 HP1 HP2
        rw [hX1] at e1 HRES
        rw [hZ1] at HP1 HRES
        rw [hZ2] at HP2 HRES
        rw [HYE.out] at HRES
        clear hX hX1 hZ1 hZ2 HYE
        have KB := hid (fun W (hb : Below wr.heap.size wr W) => (show W.cell? ⟨g, 0, none⟩ = some (.string X) ∧ W.cell? ⟨g, 1, none⟩ = some (.string X1) from by
          have kk := Kept.of_below hb (Nat.le_refl _)
          exact ⟨kk.cell e0, kk.cell e1⟩))
        cases hE : (Z1.toList == X1.toList) with
        | false =>
          have HRN := hid (HRES.out.2 hE)
          clear HRES
          go_wp2_with (go_at_call 19; refine HHS.out.mono ?_; rintro r w2 ⟨rfl, rfl⟩)
          go_region_held3 (fun w' => w'.cell? ⟨g, 0, none⟩ = some (.string X) ∧ w'.cell? ⟨g, 1, none⟩ = some (.string X1))
            (first | exact ⟨e0, e1⟩ | exact e5)
            ((go_at_call 24; refine (HP1.out _).mono ?_; rintro r w3 ⟨rfl, hb3⟩; have hb03 := below_nx hb3 ((Below.refl _ wr).drew); have e5 := KB.out _ hb03; have HB3 := hid hb03; clear hb3 hb03))
          go_wp2_with fail
          go_ret
          exact ⟨ret_str HRN.out.symm, HBW.out.trans (HB3.out.mono HBW.out.size)⟩
        | true =>
          have HRS := hid (HRES.out.1 hE)
          clear HRES
          go_wp2_with (go_at_call 19; refine HHS.out.mono ?_; rintro r w2 ⟨rfl, rfl⟩)
          go_region_held3 (fun w' => w'.cell? ⟨g, 0, none⟩ = some (.string X) ∧ w'.cell? ⟨g, 1, none⟩ = some (.string X1))
            (first | exact ⟨e0, e1⟩ | exact e5)
            ((go_at_call 24; refine (HP1.out _).mono ?_; rintro r w3 ⟨rfl, hb3⟩; have hb03 := below_nx hb3 ((Below.refl _ wr).drew); have e5 := KB.out _ hb03; have HB3 := hid hb03; clear hb3 hb03))
          obtain ⟨f0, f1⟩ := KB.out _ HB3.out
          go_wp2_with (go_at_call 24; refine (HP2.out _).mono ?_; rintro r w4 ⟨rfl, hb4⟩)
          go_ret
          exact ⟨ret_str HRS.out.symm, (HBW.out.trans (HB3.out.mono HBW.out.size)).trans (hb4.mono (by have := HBW.out.size; have := HB3.out.size; omega))⟩
end Go.Proofs.YtapimaabijgaiaaDoor
