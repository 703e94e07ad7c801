/- FnEnv: the law, walked. -/
import Derived.Test.YtnphopnhioogdaaDoorDrwYEnv
import Derived.Test.YtnphopnhioogdaaDoorEnvLI
import Derived.Deep.QuietTactic
import Derived.BigQuiet
namespace Go.Proofs.YtnphopnhioogdaaDoor
open Go.RowKit

theorem l3_hit {s : List UInt8} {ns ts : List ByteArray} (hl : ns.length = ts.length) {i : Nat} {x : ByteArray} (hx : ns[i]? = some x) (hs : x.toList = s) : ∀ m, i < m → m ≤ ns.length → ∃ t ∈ ts, l3 s ns ts m = t := by
  intro m
  induction m with
  | zero => intro h; omega
  | succ m ih =>
    intro h hm
    obtain ⟨y, hy⟩ : ∃ y, ns[m]? = some y := ⟨_, List.getElem?_eq_getElem (by omega)⟩
    obtain ⟨t, ht⟩ : ∃ t, ts[m]? = some t := ⟨_, List.getElem?_eq_getElem (by omega)⟩
    rw [l3_step hy ht]
    by_cases hys : y.toList = s
    · rw [if_pos hys]; exact ⟨t, List.mem_of_getElem? ht, rfl⟩
    · rw [if_neg hys]
      have him : i ≠ m := by
        intro e; subst e
        rw [hx] at hy; simp at hy; subst hy; exact hys hs
      exact ih (by omega) (by omega)
theorem isV_size {t : ByteArray} (h : isV t = true) : t.size ≠ 0 := by
  intro e
  have : t = ByteArray.empty := by
    apply ByteArray.ext; apply Array.eq_empty_of_size_eq_zero; exact e
  rw [this] at h
  revert h; decide
/-- What EnvLook tells of a name of a valid environment. -/
theorem en_look {ns ts : List ByteArray} (hv : validB ns ts = true) {i : Nat} {x : ByteArray} (hx : ns[i]? = some x) : ns.length = ts.length ∧ lkT ns ts x = l3 x.toList ns ts ns.length ∧ decide ((lkT ns ts x).size ≠ 0) = true := by
  have hv2 := hv
  unfold validB at hv2
  simp only [Bool.and_eq_true, decide_eq_true_eq] at hv2
  have hl := hv2.2.2.1
  have e : lkT ns ts x = l3 x.toList ns ts ns.length := by rw [lkT, if_pos hv]
  have hi : i < ns.length := (List.getElem?_eq_some_iff.1 hx).1
  obtain ⟨t, ht, h3⟩ := l3_hit hl hx rfl ns.length hi (Nat.le_refl _)
  refine ⟨hl, e, ?_⟩
  rw [e, h3]
  exact decide_eq_true (isV_size (List.all_eq_true.1 hv2.2.1 t ht))

set_option maxRecDepth 100000 in
set_option maxHeartbeats 4000000 in
theorem lawEnvD {w : World} {p : Option Addr} {n c : Nat} {bs : List Int} (hl : bs.length = n) (hn : n ≤ 9223372036854775807) (hz : ∀ z ∈ bs, 0 ≤ z ∧ z ≤ 255) (hp : ∀ g o s, p = some ⟨g, o, s⟩ → n = 0 ∨ g < w.heap.size) (hv : Vals w p (u8s bs)) (hc : n ≤ c) :
    Calls Tryd.prog 3 #[.slice p n c] w fun e w' => e = .returned (.bool true) ∧ Below w.heap.size w w' := by
  by_cases h : n ≤ 1048576
  · have HD := hid (drawEnv_any hl (by omega) hz hp hv hc)
    clear hl hz hp hv
    go_enter Tryd.func3, Tryd.ntmps3
    go_wp2_with fail
    go_at_call 12
    refine HD.out.mono ?_
    rintro e w1 ⟨ns, ts, p1, p2, n1, m1, c1, d1, rfl, hn1, hm1, hn5, hm5, hv1, hv2, hs1, hs2, hb1⟩
    have HB1 := hid hb1
    have HV1 := hid hv1
    have HV2 := hid hv2
    have HN := hid hn1
    have HM := hid hm1
    have HB := hid (fun W (hk : Kept w1 W) => implEnvValid_any ns ts p1 p2 n1 m1 c1 d1 W HN.out HM.out (by omega) (by omega) (HV1.out.kept hk) (HV2.out.kept hk) (fun s h => by have := hs1 s h; omega) (fun s h => by have := hs2 s h; omega))
    have HA := hid (fun W (hk : Kept w1 W) => specEnvValid_any ns ts p1 p2 n1 m1 c1 d1 W HN.out HM.out (by omega) (by omega) (HV1.out.kept hk) (HV2.out.kept hk) (fun s h => by have := hs1 s h; omega) (fun s h => by have := hs2 s h; omega))
    have HL := hid (fun s W (hk : Kept w1 W) => implEnvLook_any ns ts s p1 p2 n1 m1 c1 d1 W HN.out HM.out (by omega) (by omega) (HV1.out.kept hk) (HV2.out.kept hk) (fun s h => by have := hs1 s h; omega) (fun s h => by have := hs2 s h; omega))
    clear hb1 hv1 hv2 hn1 hm1 hs1 hs2
    cases hvb : validB ns ts with
    | false =>
      rw [hvb] at HA HB
      clear hvb HL
      go_wp2_with fail
      go_at_call 13
      refine (HB.out _ (Kept.refl _)).mono ?_
      rintro e w2 ⟨rfl, hb2⟩
      have HB2 := hid hb2
      clear hb2
      go_wp2_with fail
      go_at_call 14
      refine (HA.out _ (Kept.of_below HB2.out (Nat.le_refl _))).mono ?_
      rintro e w3 ⟨rfl, hb3⟩
      have HB3 := hid (HB2.out.trans (hb3.mono HB2.out.size))
      clear hb3
      go_wp2_with fail
      go_ret
      exact ⟨rfl, HB1.out.trans (HB3.out.mono HB1.out.size)⟩
    | true =>
      rw [hvb] at HA HB
      have HLK := hid (fun (i : Nat) (x : ByteArray) (hx : ns[i]? = some x) W (hk : Kept w1 W) => (show Calls Tryd.prog 15 #[.slice p1 n1 c1, .slice p2 m1 d1, .string x] W fun e w' => e = .returned (.tuple #[.string (l3 x.toList ns ts ns.length), .bool true]) ∧ Below W.heap.size W w' from by
        have h1 := HL.out x W hk
        obtain ⟨_, h2, h3⟩ := en_look hvb hx
        unfold LookPost at h1
        rw [h3, h2] at h1; exact h1))
      have hlen : ns.length = ts.length := by
        have hv2 := hvb
        unfold validB at hv2
        simp only [Bool.and_eq_true, decide_eq_true_eq] at hv2
        exact hv2.2.2.1
      have hnm : m1 = n1 := by rw [← HN.out, ← HM.out, hlen]
      subst hnm
      have HLEN := hid hlen
      clear hvb HL hlen
      go_wp2_with fail
      go_at_call 13
      refine (HB.out _ (Kept.refl _)).mono ?_
      rintro e w2 ⟨rfl, hb2⟩
      have HB2 := hid hb2
      clear hb2
      go_wp2_with fail
      go_at_call 14
      refine (HA.out _ (Kept.of_below HB2.out (Nat.le_refl _))).mono ?_
      rintro e w3 ⟨rfl, hb3⟩
      have HB3 := hid (HB2.out.trans (hb3.mono HB2.out.size))
      clear hb3
      go_wp2_with fail
      go_loopw [7] (fun u wr => ∃ i : Nat, i ≤ m1 ∧ u = .int .i64 (i : Int) ∧ Hid (Below w1.heap.size w1 wr)) (fun u _ => m1 - (intOf u).toNat)
      case atStart => exact ⟨0, Nat.zero_le _, rfl, HB3⟩
      case round =>
        obtain ⟨i, hi, rfl, hbel⟩ := hrel
        by_cases hlt : i < m1
        · obtain ⟨x, hx⟩ : ∃ x, ns[i]? = some x := ⟨_, List.getElem?_eq_getElem (by rw [HN.out]; exact hlt)⟩
          obtain ⟨b2, o2, hbo, hcz⟩ := HV1.out i (.string x) (by rw [List.getElem?_map, hx]; rfl)
          subst hbo
          have HCX := hid (fun W (hk : Kept w1 W) => hk.cell hcz)
          have hcc := HCX.out wr (Kept.of_below hbel.out (Nat.le_refl _))
          have HC := hid (HLK.out i x hx wr (Kept.of_below hbel.out (Nat.le_refl _)))
          have d1 : (i : Int) < (m1 : Int) := by omega
          obtain ⟨R, hR⟩ : ∃ R, l3 x.toList ns ts ns.length = R := ⟨_, rfl⟩
          rw [hR] at HC
          have HR := hid hR
          clear hcz hx hR
          go_wp2_with fail
          go_at_call 15
          refine HC.out.mono ?_
          rintro e w5 ⟨rfl, hb5⟩
          have HB5 := hid (hbel.out.trans (hb5.mono hbel.out.size))
          clear hb5
          go_wp2_with fail
          go_loopw [10, 11] (fun t u wq => ∃ k : Nat, k ≤ m1 ∧ u = .int .i64 (k : Int) ∧ t = .string (l3 x.toList ns ts k) ∧ Hid (Below w1.heap.size w1 wq)) (fun _ u _ => m1 - (intOf u).toNat)
          case atStart => exact ⟨0, Nat.zero_le _, rfl, rfl, HB5⟩
          case round =>
            obtain ⟨k, hk, rfl, rfl, hbq⟩ := hrel
            have hcq := HCX.out _ (Kept.of_below hbq.out (Nat.le_refl _))
            by_cases hlk : k < m1
            · obtain ⟨y, hy⟩ : ∃ y, ns[k]? = some y := ⟨_, List.getElem?_eq_getElem (by rw [HN.out]; exact hlk)⟩
              obtain ⟨t, ht⟩ : ∃ t, ts[k]? = some t := ⟨_, List.getElem?_eq_getElem (by rw [HM.out]; exact hlk)⟩
              obtain ⟨b3, o3, hbo3, hcy⟩ := HV1.out k (.string y) (by rw [List.getElem?_map, hy]; rfl)
              obtain ⟨b4, o4, hbo4, hct⟩ := HV2.out k (.string t) (by rw [List.getElem?_map, ht]; rfl)
              obtain ⟨rfl, rfl⟩ : b2 = b3 ∧ o2 = o3 := by simpa using hbo3
              subst hbo4
              have hcy2 := (Kept.of_below hbq.out (Nat.le_refl _)).cell hcy
              have hct2 := (Kept.of_below hbq.out (Nat.le_refl _)).cell hct
              have HST := hid (l3_step (s := x.toList) hy ht)
              have d2 : (k : Int) < (m1 : Int) := by omega
              clear hcy hct hbo3 hy ht
              by_cases hyx : y.toList = x.toList
              · have e1 : (y.toList == x.toList) = true := beq_iff_eq.2 hyx
                rw [if_pos hyx] at HST
                clear hyx
                go_wp2_with fail
                go_quiet (fail)
                go_wp2_with fail
                go_roundw
                case rel => exact ⟨k + 1, by omega, by go_num, by rw [HST.out], hid (below_drewN hbq.out _)⟩
                case measure => simp [intOf]; omega
              · have e1 : (y.toList == x.toList) = false := beq_eq_false_iff_ne.2 hyx
                rw [if_neg hyx] at HST
                clear hyx
                go_wp2_with fail
                go_quiet (fail)
                go_wp2_with fail
                go_roundw
                case rel => exact ⟨k + 1, by omega, by go_num, by rw [HST.out], hid (below_drewN hbq.out _)⟩
                case measure => simp [intOf]; omega
            · have hkm : k = m1 := by omega
              have hq0 : (!R.toList == R.toList) = false := by simp
              rw [show l3 x.toList ns ts k = R from by rw [hkm, ← HN.out]; exact HR.out]
              clear hkm
              go_wp2_with fail
              go_roundw
              case rel => exact ⟨i + 1, by omega, by go_num, hbq⟩
              case measure => simp [intOf]; omega
        · have hin : i = m1 := by omega
          subst hin
          go_wp2_with fail
          go_ret
          exact ⟨rfl, HB1.out.trans (hbel.out.mono HB1.out.size)⟩
  · have h2 : 1048576 < n := by omega
    clear h hl hz hp hv
    go_enter Tryd.func3, Tryd.ntmps3
    go_wp2
    go_ret
    exact ⟨rfl, Below.refl _ _⟩
end Go.Proofs.YtnphopnhioogdaaDoor
