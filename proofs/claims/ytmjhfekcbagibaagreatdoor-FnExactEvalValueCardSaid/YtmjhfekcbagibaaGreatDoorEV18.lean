/- Merged: EvN, EvO, EvQ, EvS. -/
import Derived.Deep.RegionHeld3
import Derived.BigQuiet
import Derived.Test.YtmjhfekcbagibaaGreatDoorEVSEvM
import Derived.Test.YtmjhfekcbagibaaGreatDoorEV12
namespace Go.Proofs.YtmjhfekcbagibaaGreatDoor
open Go.RowKit

set_option maxRecDepth 100000 in
set_option maxHeartbeats 4000000 in
theorem vp_if {w0 w : World} {rb b gk kc gas : Nat} {r : R7} {hd : ByteArray} {A : Nat → Nat} {ks : List Sx} {env : List (ByteArray × Sv)} {p : Option Addr} {X : Option Sv × R7} (hhd : hd.toList = [105, 102]) (hkc1 : 3 ≤ kc) (hks : ks.length = 1) (hk : Kept w0 w) (hrb : w0.heap.size ≤ rb) (hr : RunAt w rb r) (hb1 : r.bit ≤ 1)
    (k0 : w0.cell? ⟨b, 0, none⟩ = some (.string hd)) (k4 : w0.cell? ⟨b, 4, none⟩ = some (.slice (some ⟨gk, 0, none⟩) 3 kc)) (krow : ∀ i, i < 3 → w0.cell? ⟨gk, i, none⟩ = some (.pointer (some ⟨A i, 0, none⟩))) (he : EvIn w0 w env p)
    (ih : ∀ i k, ks[i]? = some k → ∀ (W : World) (rr : R7), Kept w0 W → w0.heap.size ≤ W.heap.size → RunAt W rb rr → rr.fuel ≤ r.fuel → rr.bit ≤ 1 → EvIn w0 W env p → (k.ev gas env rr).2.bit ≤ 1 ∧ Calls Tryz.prog 11 #[.pointer (some ⟨rb, 0, none⟩), .pointer (some ⟨A i, 0, none⟩), .pointer p] W (EvPost w0 rb (k.ev gas env rr) W))
    (hX0 : ∀ r2, evL gas ks env r = (none, r2) → X = (none, r2))
    (hX1 : ∀ vs r2, evL gas ks env r = (some vs, r2) → r2.fuel ≤ r.fuel → r2.bit ≤ 1 → ∃ n, vs = [.bit n] ∧ ∀ W, Kept w0 W → w0.heap.size ≤ W.heap.size → RunAt W rb r2 → EvIn w0 W env p → Calls Tryz.prog 11 #[.pointer (some ⟨rb, 0, none⟩), .pointer (some ⟨A (if n = 1 then 1 else 2), 0, none⟩), .pointer p] W (EvPost w0 rb X W)) :
    Calls Tryz.prog 23 #[.pointer (some ⟨rb, 0, none⟩), .pointer (some ⟨b, 0, none⟩), .pointer p] w (EvPost w0 rb X w) := by
  have t0 : (hd.toList == [105, 102]) = true := by rw [hhd]; rfl
  have t1 : (hd.toList == [112, 97, 105, 114]) = false := by rw [hhd]; rfl
  have t2 : (hd.toList == [102, 115, 116]) = false := by rw [hhd]; rfl
  have t3 : (hd.toList == [112, 117, 116]) = false := by rw [hhd]; rfl
  have hrl : rb < w.heap.size := lt_of_block hr
  obtain ⟨i0, hi0, hz0, hz1, hz2⟩ := info_parts Tryz.infoSv
  obtain ⟨Q, hQ⟩ : ∃ Q, EvPost w0 rb X w = Q := ⟨_, rfl⟩
  rw [hQ]
  have HQ := hid hQ
  have HR := hid hr
  have HE := hid he
  have HK := hid hk
  have HIH := hid ih
  have HX0 := hid hX0
  have HX1 := hid hX1
  have HKS := hid hks
  have HROW := hid krow
  have HK4 := hid k4
  have HK0 := hid k0
  have j0 := hk.cell k0
  have j4 := hk.cell k4
  clear hQ hr he hk ih hX0 hX1 hks krow k4 k0 hhd
  go_enter Tryz.func23, Tryz.ntmps23
  go_wp2_with fail
  go_loopw [9, 33] (fun v u wr => ∃ (i c : Nat) (q : Option Addr) (us : List Value) (vs : List Sv) (rr : R7), i ≤ 1 ∧ u = .int .i64 (i : Int) ∧ v = .slice q i c ∧ wr.ownsRow w.heap.size 47 1 (.slice q i c) i us ∧ Hid (w.grownBy wr (some rb) ∧ RunAt wr rb rr ∧ rr.fuel ≤ r.fuel ∧ rr.bit ≤ 1 ∧ VsIn w0 wr vs us ∧ evL gas ks env r = evOn vs (evL gas (ks.drop i) env rr))) (fun _ u _ => 1 - (intOf u).toNat)
  case atStart => exact ⟨0, 0, none, [], [], r, Nat.zero_le _, rfl, rfl, World.ownsRow_nil _ _ _ _, hid ⟨World.grownBy.refl _ _, HR.out, Nat.le_refl _, hb1, trivial, by rw [List.drop_zero, evOn_nil]⟩⟩
  case round =>
    obtain ⟨i, c, q, us, vs, rr, hi, rfl, rfl, hown, hh⟩ := hrel
    obtain ⟨hg, hra, hfu, hbt, hvs, hev⟩ := hh.out
    have hz := hg.size
    have hkw : Kept w0 wr := fun k hk2 => (hg.block k (by omega) (fun e => by have : rb = k := by first | exact Option.some.inj e | exact (Option.some.inj e).symm
                                                                              omega)).trans (HK.out k hk2)
    have c0 := hkw.cell HK0.out
    have c4 := hkw.cell HK4.out
    have hew := HE.out.nm (run_nm HR.out hg)
    have HOWN := hid hown
    have HG := hid hg
    have HRA := hid hra
    have HVS := hid hvs
    have HEV := hid hev
    have HKW := hid hkw
    by_cases hlt : i < 1
    · obtain ⟨k, hik⟩ : ∃ k, ks[i]? = some k := ⟨_, List.getElem?_eq_getElem (by rw [HKS.out]; exact hlt)⟩
      have cr := hkw.cell (HROW.out i (by omega))
      obtain ⟨hbb, hcall⟩ := HIH.out i k hik wr rr hkw (by omega) hra hfu hbt hew
      have HC := hid hcall
      have hst := evL_step (g := gas) hik env rr
      have hfl := ev_fuel gas k env rr
      obtain ⟨x, hx⟩ : ∃ x, k.ev gas env rr = x := ⟨_, rfl⟩
      rw [hx] at HC hst hbb hfl
      obtain ⟨o, r1⟩ := x
      cases o with
      | none =>
        have HXN := hid (HX0.out r1 (by rw [HEV.out, hst]; rfl))
        clear hst hik hx hcall hown hh hg hra hvs hev hkw hew hbb
        go_wp2_with (go_at_call 11; refine HC.out.mono ?_; rintro e w1' hp; obtain ⟨hg1, hr1, u1, rfl⟩ := hp; have HG1 := hid hg1; have HR1 := hid hr1; clear hg1 hr1)
        rw [← HQ.out, HXN.out]
        exact ⟨grown_trans HG.out HG1.out, HR1.out, _, rfl⟩
      | some v1 =>
        have HST := hid (show evL gas ks env r = evOn (vs ++ [v1]) (evL gas (ks.drop (i + 1)) env r1) by rw [HEV.out, hst, ← evOn_app])
        clear hst hik hx hcall hown hh hg hra hvs hev hkw hew
        go_wp2_with (first | (at_builtin; refine wpList_append_at _ rfl (.tmp 46) (.tmp 48) 85 rfl w.heap.size 47 i0 .nilIface 1 16 Tryz.underlying85 hi0 hz0 hz1 hz2 rfl (by decide) (.slice q i c) i _ rfl (HO1.out.alloc _) ⟨w1'.heap.size, 0, none⟩ 1 1 [.iface ut ux] rfl rfl (cells_new1 _ _ _ _ rfl) (by intro u hu; simp at hu; subst hu; rfl) (by decide) (by unfold maxLen; omega) (by omega) (by simp; omega) ?_; intro v' w2 hown2 hg2 hw2 hv2; obtain ⟨g2, kc2, rfl⟩ := hv2; have HGG := hid hg2; have HO := hid hown2; clear hg2 hown2 hw2) | (go_at_call 11; refine HC.out.mono ?_; rintro e w1' hp; obtain ⟨hg1, hr1, u1, rfl, hu1⟩ := hp; obtain ⟨ut, ux, rfl⟩ := hu1.iface; have HG1 := hid hg1; have HR1 := hid hr1; have HU1 := hid hu1; have HO1 := hid (own_grown HOWN.out hg1 hrl); have s1 := hg1.size; clear hg1 hr1 hu1))
        go_roundw
        case rel =>
          have hal : Kept w1' (w1'.alloc (.cells #[.iface ut ux] 47)) := (Kept.refl w1').alloc (Nat.le_refl _) _
          have hoa := HO1.out.alloc (.cells #[.iface ut ux] 47)
          have n1 : NmKept wr w2 := (run_nm HRA.out HG1.out).trans ((Kept.nm hal).trans (nm_row hoa HGG.out (by decide)))
          have n2 : NmKept w1' w2 := (Kept.nm hal).trans (nm_row hoa HGG.out (by decide))
          have gA : w.grownBy (w1'.alloc (.cells #[.iface ut ux] 47)) (some rb) := grow_off (grown_trans HG.out HG1.out) (Below.grownBy ((Below.refl w1'.heap.size w1').alloc (Nat.le_refl _) _) (Nat.le_refl _) (n := none)) (fun k e => by cases e)
          refine ⟨i + 1, kc2, some ⟨g2, 0, none⟩, us ++ [.iface ut ux], vs ++ [v1], r1, by omega, by go_num, rfl, HO.out, hid ⟨grow_off gA HGG.out (fun k e => (HOWN.out.lt k e).1), ?_, Nat.le_trans hfl hfu, hbb, (HVS.out.nm n1).snoc (HU1.out.nm n2), HST.out⟩⟩
          have hrl1 : rb < w1'.heap.size := lt_of_block HR1.out
          show w2.heap[rb]? = _
          rw [HGG.out.block rb (by simp; omega) (fun e => by have := (HOWN.out.lt rb (by first | exact e | exact e.symm)).1; omega), heap_alloc_old _ _ hrl1]
          exact HR1.out
        case measure => simp [intOf]; omega
    · have hin : i = 1 := by omega
      subst hin
      have hfin : evL gas ks env r = (some vs, rr) := by
        rw [HEV.out, List.drop_of_length_le (by rw [HKS.out]; omega)]
        simp [evL, evOn]
      have HFIN := hid (HX1.out vs rr hfin hfu hbt)
      have hvl := evL_len hfin
      rw [HKS.out] at hvl
      have hrow := own_rowS hown
      have hul : us.length = 1 := hown.1
      obtain ⟨v, u, rfl, rfl, hsv⟩ := vs1 HVS.out hvl
      obtain ⟨gq, rfl, _, e0⟩ := hrow 0 u rfl
      obtain ⟨n, hv0, hXE⟩ := HFIN.out
      obtain rfl : v = .bit n := by simpa using hv0
      cases hsv with
      | bit _ =>
        have hcc := hXE wr hkw (by omega) hra hew
        have HFB : Hid (Calls Tryz.prog 34 #[.pointer (some ⟨rb, 0, none⟩), .pointer (some ⟨b, 0, none⟩), .int .i64 (n : Int), .pointer p] wr (EvPost w0 rb X wr)) := by
          by_cases hn : n = 1
          · rw [if_pos hn] at hcc
            exact hid (fb_kid1 t3 (by simp [hn]) c0 c4 (hkw.cell (HROW.out 1 (by omega))) hcc)
          · rw [if_neg hn] at hcc
            exact hid (fb_kid2 t3 (by simp; omega) c0 c4 (hkw.cell (HROW.out 2 (by omega))) hcc)
        clear hcc hXE hv0 hh hown hg hra hvs hev hkw hew hfin hvl hrow hul HFIN
        have as1 := sv_bit_fun (.int .i64 (n : Int))
        have as2 := sv_bit_pair (.int .i64 (n : Int))
        have as3 := sv_bit_bit (.int .i64 (n : Int))
        go_wp2_with (go_at_call 34; refine HFB.out.mono ?_; rintro e w2 hp; obtain ⟨u1, bb, rfl, hp⟩ := evPost_shape hp; have HPP := hid hp; clear hp)
        rw [← HQ.out]
        exact ⟨grown_trans HG.out HPP.out.1, HPP.out.2⟩

set_option maxRecDepth 100000 in
set_option maxHeartbeats 4000000 in
theorem vp_pair {w0 w : World} {rb b gk kc gas : Nat} {r : R7} {hd : ByteArray} {A : Nat → Nat} {ks : List Sx} {env : List (ByteArray × Sv)} {p : Option Addr} {X : Option Sv × R7} (hhd : hd.toList = [112, 97, 105, 114]) (hks : ks.length = 2) (hk : Kept w0 w) (hrb : w0.heap.size ≤ rb) (hr : RunAt w rb r) (hb1 : r.bit ≤ 1)
    (k0 : w0.cell? ⟨b, 0, none⟩ = some (.string hd)) (k4 : w0.cell? ⟨b, 4, none⟩ = some (.slice (some ⟨gk, 0, none⟩) 2 kc)) (krow : ∀ i, i < 2 → w0.cell? ⟨gk, i, none⟩ = some (.pointer (some ⟨A i, 0, none⟩))) (he : EvIn w0 w env p)
    (ih : ∀ i k, ks[i]? = some k → ∀ (W : World) (rr : R7), Kept w0 W → w0.heap.size ≤ W.heap.size → RunAt W rb rr → rr.fuel ≤ r.fuel → rr.bit ≤ 1 → EvIn w0 W env p → (k.ev gas env rr).2.bit ≤ 1 ∧ Calls Tryz.prog 11 #[.pointer (some ⟨rb, 0, none⟩), .pointer (some ⟨A i, 0, none⟩), .pointer p] W (EvPost w0 rb (k.ev gas env rr) W))
    (hX0 : ∀ r2, evL gas ks env r = (none, r2) → X = (none, r2))
    (hX1 : ∀ vs r2, evL gas ks env r = (some vs, r2) → r2.fuel ≤ r.fuel → r2.bit ≤ 1 → ∃ x y, vs = [x, y] ∧ X = (some (.pair x y), r2)) :
    Calls Tryz.prog 23 #[.pointer (some ⟨rb, 0, none⟩), .pointer (some ⟨b, 0, none⟩), .pointer p] w (EvPost w0 rb X w) := by
  have t0 : (hd.toList == [105, 102]) = false := by rw [hhd]; rfl
  have t1 : (hd.toList == [112, 97, 105, 114]) = true := by rw [hhd]; rfl
  have t2 : (hd.toList == [102, 115, 116]) = false := by rw [hhd]; rfl
  have t3 : (hd.toList == [112, 117, 116]) = false := by rw [hhd]; rfl
  have hrl : rb < w.heap.size := lt_of_block hr
  obtain ⟨i0, hi0, hz0, hz1, hz2⟩ := info_parts Tryz.infoSv
  obtain ⟨Q, hQ⟩ : ∃ Q, EvPost w0 rb X w = Q := ⟨_, rfl⟩
  rw [hQ]
  have HQ := hid hQ
  have HR := hid hr
  have HE := hid he
  have HK := hid hk
  have HIH := hid ih
  have HX0 := hid hX0
  have HX1 := hid hX1
  have HKS := hid hks
  have HROW := hid krow
  have HK4 := hid k4
  have HK0 := hid k0
  have j0 := hk.cell k0
  have j4 := hk.cell k4
  clear hQ hr he hk ih hX0 hX1 hks krow k4 k0 hhd
  go_enter Tryz.func23, Tryz.ntmps23
  go_wp2_with fail
  go_loopw [9, 33] (fun v u wr => ∃ (i c : Nat) (q : Option Addr) (us : List Value) (vs : List Sv) (rr : R7), i ≤ 2 ∧ u = .int .i64 (i : Int) ∧ v = .slice q i c ∧ wr.ownsRow w.heap.size 47 1 (.slice q i c) i us ∧ Hid (w.grownBy wr (some rb) ∧ RunAt wr rb rr ∧ rr.fuel ≤ r.fuel ∧ rr.bit ≤ 1 ∧ VsIn w0 wr vs us ∧ evL gas ks env r = evOn vs (evL gas (ks.drop i) env rr))) (fun _ u _ => 2 - (intOf u).toNat)
  case atStart => exact ⟨0, 0, none, [], [], r, Nat.zero_le _, rfl, rfl, World.ownsRow_nil _ _ _ _, hid ⟨World.grownBy.refl _ _, HR.out, Nat.le_refl _, hb1, trivial, by rw [List.drop_zero, evOn_nil]⟩⟩
  case round =>
    obtain ⟨i, c, q, us, vs, rr, hi, rfl, rfl, hown, hh⟩ := hrel
    obtain ⟨hg, hra, hfu, hbt, hvs, hev⟩ := hh.out
    have hz := hg.size
    have hkw : Kept w0 wr := fun k hk2 => (hg.block k (by omega) (fun e => by have : rb = k := by first | exact Option.some.inj e | exact (Option.some.inj e).symm
                                                                              omega)).trans (HK.out k hk2)
    have c0 := hkw.cell HK0.out
    have c4 := hkw.cell HK4.out
    have hew := HE.out.nm (run_nm HR.out hg)
    have HOWN := hid hown
    have HG := hid hg
    have HRA := hid hra
    have HVS := hid hvs
    have HEV := hid hev
    have HKW := hid hkw
    by_cases hlt : i < 2
    · obtain ⟨k, hik⟩ : ∃ k, ks[i]? = some k := ⟨_, List.getElem?_eq_getElem (by rw [HKS.out]; exact hlt)⟩
      have cr := hkw.cell (HROW.out i (by omega))
      obtain ⟨hbb, hcall⟩ := HIH.out i k hik wr rr hkw (by omega) hra hfu hbt hew
      have HC := hid hcall
      have hst := evL_step (g := gas) hik env rr
      have hfl := ev_fuel gas k env rr
      obtain ⟨x, hx⟩ : ∃ x, k.ev gas env rr = x := ⟨_, rfl⟩
      rw [hx] at HC hst hbb hfl
      obtain ⟨o, r1⟩ := x
      cases o with
      | none =>
        have HXN := hid (HX0.out r1 (by rw [HEV.out, hst]; rfl))
        clear hst hik hx hcall hown hh hg hra hvs hev hkw hew hbb
        go_wp2_with (go_at_call 11; refine HC.out.mono ?_; rintro e w1' hp; obtain ⟨hg1, hr1, u1, rfl⟩ := hp; have HG1 := hid hg1; have HR1 := hid hr1; clear hg1 hr1)
        rw [← HQ.out, HXN.out]
        exact ⟨grown_trans HG.out HG1.out, HR1.out, _, rfl⟩
      | some v1 =>
        have HST := hid (show evL gas ks env r = evOn (vs ++ [v1]) (evL gas (ks.drop (i + 1)) env r1) by rw [HEV.out, hst, ← evOn_app])
        clear hst hik hx hcall hown hh hg hra hvs hev hkw hew
        go_wp2_with (first | (at_builtin; refine wpList_append_at _ rfl (.tmp 46) (.tmp 48) 85 rfl w.heap.size 47 i0 .nilIface 1 16 Tryz.underlying85 hi0 hz0 hz1 hz2 rfl (by decide) (.slice q i c) i _ rfl (HO1.out.alloc _) ⟨w1'.heap.size, 0, none⟩ 1 1 [.iface ut ux] rfl rfl (cells_new1 _ _ _ _ rfl) (by intro u hu; simp at hu; subst hu; rfl) (by decide) (by unfold maxLen; omega) (by omega) (by simp; omega) ?_; intro v' w2 hown2 hg2 hw2 hv2; obtain ⟨g2, kc2, rfl⟩ := hv2; have HGG := hid hg2; have HO := hid hown2; clear hg2 hown2 hw2) | (go_at_call 11; refine HC.out.mono ?_; rintro e w1' hp; obtain ⟨hg1, hr1, u1, rfl, hu1⟩ := hp; obtain ⟨ut, ux, rfl⟩ := hu1.iface; have HG1 := hid hg1; have HR1 := hid hr1; have HU1 := hid hu1; have HO1 := hid (own_grown HOWN.out hg1 hrl); have s1 := hg1.size; clear hg1 hr1 hu1))
        go_roundw
        case rel =>
          have hal : Kept w1' (w1'.alloc (.cells #[.iface ut ux] 47)) := (Kept.refl w1').alloc (Nat.le_refl _) _
          have hoa := HO1.out.alloc (.cells #[.iface ut ux] 47)
          have n1 : NmKept wr w2 := (run_nm HRA.out HG1.out).trans ((Kept.nm hal).trans (nm_row hoa HGG.out (by decide)))
          have n2 : NmKept w1' w2 := (Kept.nm hal).trans (nm_row hoa HGG.out (by decide))
          have gA : w.grownBy (w1'.alloc (.cells #[.iface ut ux] 47)) (some rb) := grow_off (grown_trans HG.out HG1.out) (Below.grownBy ((Below.refl w1'.heap.size w1').alloc (Nat.le_refl _) _) (Nat.le_refl _) (n := none)) (fun k e => by cases e)
          refine ⟨i + 1, kc2, some ⟨g2, 0, none⟩, us ++ [.iface ut ux], vs ++ [v1], r1, by omega, by go_num, rfl, HO.out, hid ⟨grow_off gA HGG.out (fun k e => (HOWN.out.lt k e).1), ?_, Nat.le_trans hfl hfu, hbb, (HVS.out.nm n1).snoc (HU1.out.nm n2), HST.out⟩⟩
          have hrl1 : rb < w1'.heap.size := lt_of_block HR1.out
          show w2.heap[rb]? = _
          rw [HGG.out.block rb (by simp; omega) (fun e => by have := (HOWN.out.lt rb (by first | exact e | exact e.symm)).1; omega), heap_alloc_old _ _ hrl1]
          exact HR1.out
        case measure => simp [intOf]; omega
    · have hin : i = 2 := by omega
      subst hin
      have hfin : evL gas ks env r = (some vs, rr) := by
        rw [HEV.out, List.drop_of_length_le (by rw [HKS.out]; omega)]
        simp [evL, evOn]
      have HFIN := hid (HX1.out vs rr hfin hfu hbt)
      have hvl := evL_len hfin
      rw [HKS.out] at hvl
      have hrow := own_rowS hown
      have hul : us.length = 2 := hown.1
      obtain ⟨v, v2, u, u2, rfl, rfl, hsv, hsv2⟩ := vs2 HVS.out hvl
      obtain ⟨x, y, hv0, hXE⟩ := HFIN.out
      obtain ⟨rfl, rfl⟩ : v = x ∧ v2 = y := by simpa using hv0
      obtain ⟨ta, xa, rfl⟩ := hsv.iface
      obtain ⟨tb, xb, rfl⟩ := hsv2.iface
      obtain ⟨gq, rfl, _, e0⟩ := hrow 0 _ rfl
      obtain ⟨gq2, hgq, _, e1⟩ := hrow 1 _ rfl
      obtain rfl : gq = gq2 := by simpa using hgq
      have HXE := hid hXE
      have HHA := hid hsv
      have HHB := hid hsv2
      have nmd : ∀ k, NmKept wr (wr.drewN k) := fun k _ _ _ _ => rfl
      clear hXE hv0 hsv hsv2 hh hown hg hra hvs hev hkw hew hfin hvl hrow hul HFIN hgq
      go_wp2_with fail
      go_quiet (fail)
      go_wp2_with fail
      rw [← HQ.out, HXE.out]
      exact ⟨grow_off HG.out (Below.grownBy (below_drewN (Below.refl wr.heap.size wr) _) (Nat.le_refl _) (n := none)) (fun k e => by cases e), HRA.out, _, rfl, .pair _ _ _ _ (HHA.out.nm (nmd _)) (HHB.out.nm (nmd _))⟩
end Go.Proofs.YtmjhfekcbagibaaGreatDoor

namespace Go.Proofs.YtmjhfekcbagibaaGreatDoor
open Go.RowKit

theorem kept_thenV {a b c : World} (h1 : Kept a b) (hs : a.heap.size ≤ b.heap.size) (h2 : Kept b c) : Kept a c := fun k hk => (h2 k (by omega)).trans (h1 k hk)
theorem off_cell {w w' : World} {rb k i : Nat} {v : Value} (hg : w.grownBy w' (some rb)) (hne : k ≠ rb) (h : w.cell? ⟨k, i, none⟩ = some v) : w'.cell? ⟨k, i, none⟩ = some v :=
  (World.cell?_of_block (w := w) (a := ⟨k, i, none⟩) (hg.block k (World.block_lt_of_cell? w _ h) (fun e => hne (by first | exact Option.some.inj e | exact (Option.some.inj e).symm)))).trans h

set_option maxRecDepth 100000 in
set_option maxHeartbeats 4000000 in
theorem vp_app {w0 w : World} {rb b gk kc gas : Nat} {r : R7} {hd : ByteArray} {A : Nat → Nat} {ks : List Sx} {env : List (ByteArray × Sv)} {p : Option Addr} {X : Option Sv × R7} (hhd : hd.toList = [97, 112, 112]) (hks : ks.length = 2) (hk : Kept w0 w) (hrb : w0.heap.size ≤ rb) (hr : RunAt w rb r) (hb1 : r.bit ≤ 1)
    (k0 : w0.cell? ⟨b, 0, none⟩ = some (.string hd)) (k4 : w0.cell? ⟨b, 4, none⟩ = some (.slice (some ⟨gk, 0, none⟩) 2 kc)) (krow : ∀ i, i < 2 → w0.cell? ⟨gk, i, none⟩ = some (.pointer (some ⟨A i, 0, none⟩))) (he : EvIn w0 w env p)
    (ih : ∀ i k, ks[i]? = some k → ∀ (W : World) (rr : R7), Kept w0 W → w0.heap.size ≤ W.heap.size → RunAt W rb rr → rr.fuel ≤ r.fuel → rr.bit ≤ 1 → EvIn w0 W env p → (k.ev gas env rr).2.bit ≤ 1 ∧ Calls Tryz.prog 11 #[.pointer (some ⟨rb, 0, none⟩), .pointer (some ⟨A i, 0, none⟩), .pointer p] W (EvPost w0 rb (k.ev gas env rr) W))
    (hX0 : ∀ r2, evL gas ks env r = (none, r2) → X = (none, r2))
    (hX1 : ∀ vs r2, evL gas ks env r = (some vs, r2) → r2.fuel ≤ r.fuel → r2.bit ≤ 1 → ∃ x s e cenv u, vs = [.clo x s e cenv, u] ∧ ∀ W q a, Kept w0 W → w0.heap.size ≤ W.heap.size → RunAt W rb r2 → EvIn w0 W ((x, u) :: cenv) q → XIn w0 (fun _ => True) e a → Calls Tryz.prog 11 #[.pointer (some ⟨rb, 0, none⟩), .pointer (some ⟨a, 0, none⟩), .pointer q] W (EvPost w0 rb X W)) :
    Calls Tryz.prog 23 #[.pointer (some ⟨rb, 0, none⟩), .pointer (some ⟨b, 0, none⟩), .pointer p] w (EvPost w0 rb X w) := by
  have t0 : (hd.toList == [105, 102]) = false := by rw [hhd]; rfl
  have t1 : (hd.toList == [112, 97, 105, 114]) = false := by rw [hhd]; rfl
  have t2 : (hd.toList == [102, 115, 116]) = false := by rw [hhd]; rfl
  have t3 : (hd.toList == [112, 117, 116]) = false := by rw [hhd]; rfl
  have hrl : rb < w.heap.size := lt_of_block hr
  obtain ⟨i0, hi0, hz0, hz1, hz2⟩ := info_parts Tryz.infoSv
  obtain ⟨Q, hQ⟩ : ∃ Q, EvPost w0 rb X w = Q := ⟨_, rfl⟩
  rw [hQ]
  have HQ := hid hQ
  have HR := hid hr
  have HE := hid he
  have HK := hid hk
  have HIH := hid ih
  have HX0 := hid hX0
  have HX1 := hid hX1
  have HKS := hid hks
  have HROW := hid krow
  have HK4 := hid k4
  have HK0 := hid k0
  have j0 := hk.cell k0
  have j4 := hk.cell k4
  clear hQ hr he hk ih hX0 hX1 hks krow k4 k0 hhd
  go_enter Tryz.func23, Tryz.ntmps23
  go_wp2_with fail
  go_loopw [9, 33] (fun v u wr => ∃ (i c : Nat) (q : Option Addr) (us : List Value) (vs : List Sv) (rr : R7), i ≤ 2 ∧ u = .int .i64 (i : Int) ∧ v = .slice q i c ∧ wr.ownsRow w.heap.size 47 1 (.slice q i c) i us ∧ Hid (w.grownBy wr (some rb) ∧ RunAt wr rb rr ∧ rr.fuel ≤ r.fuel ∧ rr.bit ≤ 1 ∧ VsIn w0 wr vs us ∧ evL gas ks env r = evOn vs (evL gas (ks.drop i) env rr))) (fun _ u _ => 2 - (intOf u).toNat)
  case atStart => exact ⟨0, 0, none, [], [], r, Nat.zero_le _, rfl, rfl, World.ownsRow_nil _ _ _ _, hid ⟨World.grownBy.refl _ _, HR.out, Nat.le_refl _, hb1, trivial, by rw [List.drop_zero, evOn_nil]⟩⟩
  case round =>
    obtain ⟨i, c, q, us, vs, rr, hi, rfl, rfl, hown, hh⟩ := hrel
    obtain ⟨hg, hra, hfu, hbt, hvs, hev⟩ := hh.out
    have hz := hg.size
    have hkw : Kept w0 wr := fun k hk2 => (hg.block k (by omega) (fun e => by have : rb = k := by first | exact Option.some.inj e | exact (Option.some.inj e).symm
                                                                              omega)).trans (HK.out k hk2)
    have c0 := hkw.cell HK0.out
    have c4 := hkw.cell HK4.out
    have hew := HE.out.nm (run_nm HR.out hg)
    have HOWN := hid hown
    have HG := hid hg
    have HRA := hid hra
    have HVS := hid hvs
    have HEV := hid hev
    have HKW := hid hkw
    by_cases hlt : i < 2
    · obtain ⟨k, hik⟩ : ∃ k, ks[i]? = some k := ⟨_, List.getElem?_eq_getElem (by rw [HKS.out]; exact hlt)⟩
      have cr := hkw.cell (HROW.out i (by omega))
      obtain ⟨hbb, hcall⟩ := HIH.out i k hik wr rr hkw (by omega) hra hfu hbt hew
      have HC := hid hcall
      have hst := evL_step (g := gas) hik env rr
      have hfl := ev_fuel gas k env rr
      obtain ⟨x, hx⟩ : ∃ x, k.ev gas env rr = x := ⟨_, rfl⟩
      rw [hx] at HC hst hbb hfl
      obtain ⟨o, r1⟩ := x
      cases o with
      | none =>
        have HXN := hid (HX0.out r1 (by rw [HEV.out, hst]; rfl))
        clear hst hik hx hcall hown hh hg hra hvs hev hkw hew hbb
        go_wp2_with (go_at_call 11; refine HC.out.mono ?_; rintro e w1' hp; obtain ⟨hg1, hr1, u1, rfl⟩ := hp; have HG1 := hid hg1; have HR1 := hid hr1; clear hg1 hr1)
        rw [← HQ.out, HXN.out]
        exact ⟨grown_trans HG.out HG1.out, HR1.out, _, rfl⟩
      | some v1 =>
        have HST := hid (show evL gas ks env r = evOn (vs ++ [v1]) (evL gas (ks.drop (i + 1)) env r1) by rw [HEV.out, hst, ← evOn_app])
        clear hst hik hx hcall hown hh hg hra hvs hev hkw hew
        go_wp2_with (first | (at_builtin; refine wpList_append_at _ rfl (.tmp 46) (.tmp 48) 85 rfl w.heap.size 47 i0 .nilIface 1 16 Tryz.underlying85 hi0 hz0 hz1 hz2 rfl (by decide) (.slice q i c) i _ rfl (HO1.out.alloc _) ⟨w1'.heap.size, 0, none⟩ 1 1 [.iface ut ux] rfl rfl (cells_new1 _ _ _ _ rfl) (by intro u hu; simp at hu; subst hu; rfl) (by decide) (by unfold maxLen; omega) (by omega) (by simp; omega) ?_; intro v' w2 hown2 hg2 hw2 hv2; obtain ⟨g2, kc2, rfl⟩ := hv2; have HGG := hid hg2; have HO := hid hown2; clear hg2 hown2 hw2) | (go_at_call 11; refine HC.out.mono ?_; rintro e w1' hp; obtain ⟨hg1, hr1, u1, rfl, hu1⟩ := hp; obtain ⟨ut, ux, rfl⟩ := hu1.iface; have HG1 := hid hg1; have HR1 := hid hr1; have HU1 := hid hu1; have HO1 := hid (own_grown HOWN.out hg1 hrl); have s1 := hg1.size; clear hg1 hr1 hu1))
        go_roundw
        case rel =>
          have hal : Kept w1' (w1'.alloc (.cells #[.iface ut ux] 47)) := (Kept.refl w1').alloc (Nat.le_refl _) _
          have hoa := HO1.out.alloc (.cells #[.iface ut ux] 47)
          have n1 : NmKept wr w2 := (run_nm HRA.out HG1.out).trans ((Kept.nm hal).trans (nm_row hoa HGG.out (by decide)))
          have n2 : NmKept w1' w2 := (Kept.nm hal).trans (nm_row hoa HGG.out (by decide))
          have gA : w.grownBy (w1'.alloc (.cells #[.iface ut ux] 47)) (some rb) := grow_off (grown_trans HG.out HG1.out) (Below.grownBy ((Below.refl w1'.heap.size w1').alloc (Nat.le_refl _) _) (Nat.le_refl _) (n := none)) (fun k e => by cases e)
          refine ⟨i + 1, kc2, some ⟨g2, 0, none⟩, us ++ [.iface ut ux], vs ++ [v1], r1, by omega, by go_num, rfl, HO.out, hid ⟨grow_off gA HGG.out (fun k e => (HOWN.out.lt k e).1), ?_, Nat.le_trans hfl hfu, hbb, (HVS.out.nm n1).snoc (HU1.out.nm n2), HST.out⟩⟩
          have hrl1 : rb < w1'.heap.size := lt_of_block HR1.out
          show w2.heap[rb]? = _
          rw [HGG.out.block rb (by simp; omega) (fun e => by have := (HOWN.out.lt rb (by first | exact e | exact e.symm)).1; omega), heap_alloc_old _ _ hrl1]
          exact HR1.out
        case measure => simp [intOf]; omega
    · have hin : i = 2 := by omega
      subst hin
      have hfin : evL gas ks env r = (some vs, rr) := by
        rw [HEV.out, List.drop_of_length_le (by rw [HKS.out]; omega)]
        simp [evL, evOn]
      have HFIN := hid (HX1.out vs rr hfin hfu hbt)
      have hvl := evL_len hfin
      rw [HKS.out] at hvl
      have hrow := own_rowS hown
      have hul : us.length = 2 := hown.1
      obtain ⟨v, v2, u, u2, rfl, rfl, hsv, hsv2⟩ := vs2 HVS.out hvl
      obtain ⟨x, s, e, cenv, v3, hv0, hXE⟩ := HFIN.out
      obtain ⟨rfl, rfl⟩ : v = .clo x s e cenv ∧ v2 = v3 := by simpa using hv0
      obtain ⟨tb, xb, rfl⟩ := hsv2.iface
      obtain ⟨gq, rfl, _, e0⟩ := hrow 0 _ rfl
      obtain ⟨gq2, hgq, _, e1⟩ := hrow 1 _ rfl
      obtain rfl : gq = gq2 := by simpa using hgq
      cases hsv with
      | clo _ _ _ _ bn pe hxin hce =>
        have hxk : ∃ (gn kcn an : Nat), 1 ≤ kcn ∧ w0.cell? ⟨bn, 2, none⟩ = some (.string x) ∧ w0.cell? ⟨bn, 4, none⟩ = some (.slice (some ⟨gn, 0, none⟩) 1 kcn) ∧ w0.cell? ⟨gn, 0, none⟩ = some (.pointer (some ⟨an, 0, none⟩)) ∧ XIn w0 (fun _ => True) e an := by
          cases hxin with
          | mk _ _ tp kp kl kc2 A2 hS hb hty hkl hkc2 hkv hks =>
            have cc := cells_of_5 hb
            have hkl1 : kl = 1 := by rw [← hkl]; rfl
            subst hkl1
            obtain ⟨gn, hgn, _, hcn⟩ := hkv 0 _ (ptrs_get A2 (by omega))
            subst hgn
            exact ⟨gn, kc2, A2 0, hkc2, cc.2.2.1, cc.2.2.2.2.1, hcn, hks 0 e rfl⟩
        obtain ⟨gn, kcn, an, hkcn, n2, n4, ng, hxe⟩ := hxk
        have HXE := hid hXE
        have HXN := hid hxe
        have HCE := hid hce
        have HV2 := hid hsv2
        have KS := hid (fun W (hb : Below (wr.alloc (.cells #[.pointer (some ⟨bn, 0, none⟩), .pointer pe] 71)).heap.size (wr.alloc (.cells #[.pointer (some ⟨bn, 0, none⟩), .pointer pe] 71)) W) => (show (W.cell? ⟨wr.heap.size, 0, none⟩ = some (.pointer (some ⟨bn, 0, none⟩)) ∧ W.cell? ⟨wr.heap.size, 1, none⟩ = some (.pointer pe) ∧ W.cell? ⟨bn, 2, none⟩ = some (.string x) ∧ W.cell? ⟨bn, 4, none⟩ = some (.slice (some ⟨gn, 0, none⟩) 1 kcn) ∧ W.cell? ⟨gn, 0, none⟩ = some (.pointer (some ⟨an, 0, none⟩)) ∧ W.cell? ⟨gq, 1, none⟩ = some (.iface tb xb)) ∧ Hid (Kept w0 W ∧ NmKept wr W ∧ Below wr.heap.size wr W ∧ RunAt W rb rr) from by
          have hbw : Below wr.heap.size wr W := ((Below.refl _ _).alloc (Nat.le_refl _) _).trans (hb.mono (by simp))
          have kk := Kept.of_below hbw (Nat.le_refl _)
          have k0w : Kept w0 W := kept_thenV hkw (by omega) kk
          have c := cells_of_pair (block_below (heap_new wr (.cells #[.pointer (some ⟨bn, 0, none⟩), .pointer pe] 71) _ rfl) hb (by simp))
          exact ⟨⟨c.1, c.2.1, k0w.cell n2, k0w.cell n4, k0w.cell ng, kk.cell e1⟩, hid ⟨k0w, kk.nm, hbw, (kk rb (lt_of_block HRA.out)).trans HRA.out⟩⟩))
        have q1 : bn ≠ rb := by have : bn < w0.heap.size := World.block_lt_of_cell? w0 _ n2
                                omega
        have q2 : gn ≠ rb := by have : gn < w0.heap.size := World.block_lt_of_cell? w0 _ ng
                                omega
        have q3' : gq ≠ rb := by have := (HOWN.out.lt gq rfl).1; omega
        have q4 : wr.heap.size ≠ rb := by omega
        have HOFF := hid (fun (W0 W : World) (hg : W0.grownBy W (some rb)) (h : W0.cell? ⟨wr.heap.size, 0, none⟩ = some (.pointer (some ⟨bn, 0, none⟩)) ∧ W0.cell? ⟨wr.heap.size, 1, none⟩ = some (.pointer pe) ∧ W0.cell? ⟨bn, 2, none⟩ = some (.string x) ∧ W0.cell? ⟨bn, 4, none⟩ = some (.slice (some ⟨gn, 0, none⟩) 1 kcn) ∧ W0.cell? ⟨gn, 0, none⟩ = some (.pointer (some ⟨an, 0, none⟩)) ∧ W0.cell? ⟨gq, 1, none⟩ = some (.iface tb xb)) => (show W.cell? ⟨wr.heap.size, 0, none⟩ = some (.pointer (some ⟨bn, 0, none⟩)) ∧ W.cell? ⟨wr.heap.size, 1, none⟩ = some (.pointer pe) ∧ W.cell? ⟨bn, 2, none⟩ = some (.string x) ∧ W.cell? ⟨bn, 4, none⟩ = some (.slice (some ⟨gn, 0, none⟩) 1 kcn) ∧ W.cell? ⟨gn, 0, none⟩ = some (.pointer (some ⟨an, 0, none⟩)) ∧ W.cell? ⟨gq, 1, none⟩ = some (.iface tb xb) from ⟨off_cell hg q4 h.1, off_cell hg q4 h.2.1, off_cell hg q1 h.2.2.1, off_cell hg q1 h.2.2.2.1, off_cell hg q2 h.2.2.2.2.1, off_cell hg q3' h.2.2.2.2.2⟩))
        have as1 := sv_fun_fun (.agg #[.pointer (some ⟨bn, 0, none⟩), .pointer pe])
        have hsz : w0.heap.size ≤ wr.heap.size := by omega
        obtain ⟨d1, d2, d3, d4, d5, d6⟩ := (KS.out _ (Below.refl _ _)).1
        clear hXE hxe hce hsv2 hv0 hxin hh hown hg hra hvs hev hkw hew hfin hvl hrow hul HFIN hgq
        go_wp2_with fail
        go_region_held3 (fun W => W.cell? ⟨wr.heap.size, 0, none⟩ = some (.pointer (some ⟨bn, 0, none⟩)) ∧ W.cell? ⟨wr.heap.size, 1, none⟩ = some (.pointer pe) ∧ W.cell? ⟨bn, 2, none⟩ = some (.string x) ∧ W.cell? ⟨bn, 4, none⟩ = some (.slice (some ⟨gn, 0, none⟩) 1 kcn) ∧ W.cell? ⟨gn, 0, none⟩ = some (.pointer (some ⟨an, 0, none⟩)) ∧ W.cell? ⟨gq, 1, none⟩ = some (.iface tb xb))
          (first | exact ⟨d1, d2, d3, d4, d5, d6⟩ | exact e7 | exact e6)
          (first
            | (have _ := HB3; go_at_call 11; refine (HXE.out w3 q3 an (KS.out w3 HB3.out).2.out.1 (by have := HB3.out.size; simp at this; omega) (KS.out w3 HB3.out).2.out.2.2.2 HEN.out HXN.out).mono ?_; rintro e9 w4 hp; obtain ⟨u1, bb, rfl, hp⟩ := evPost_shape hp; have HPP := hid hp; have e7 := HOFF.out _ _ hp.1 (KS.out w3 HB3.out).1; clear hp)
            | (go_at_call 33; refine (withV_any w0 cenv pe x v2 (.iface tb xb) _ (HCE.out.nm (KS.out _ ((Below.refl _ _).drew)).2.out.2.1) (HV2.out.nm (KS.out _ ((Below.refl _ _).drew)).2.out.2.1)).mono ?_; rintro e8 w3 ⟨q3, rfl, hen, hb3⟩; have HB3 := hid (below_nx hb3 ((Below.refl _ _).drew)); have HEN := hid hen; have e6 := (KS.out w3 HB3.out).1; clear hb3 hen))
        go_wp2_with fail
        rw [← HQ.out]
        have hgA : w.grownBy w3 (some rb) := grow_off HG.out (Below.grownBy (((Below.refl wr.heap.size wr).alloc (Nat.le_refl _) _).trans (HB3.out.mono (by simp))) (Nat.le_refl _) (n := none)) (fun k e => by cases e)
        exact ⟨grown_trans hgA HPP.out.1, HPP.out.2⟩
end Go.Proofs.YtmjhfekcbagibaaGreatDoor

namespace Go.Proofs.YtmjhfekcbagibaaGreatDoor
open Go.RowKit

set_option maxRecDepth 100000 in
set_option maxHeartbeats 4000000 in
theorem ev_go {w0 w : World} {rb b n m bt : Nat} {fl : Bool} {hd : ByteArray} {p : Option Addr} {X : Option Sv × R7} (t0 : (hd.toList == [110, 97, 109, 101]) = false) (t1 : (hd.toList == [98, 105, 116]) = false) (t2 : (hd.toList == [108, 97, 109]) = false) (t3 : (hd.toList == [103, 101, 116]) = false) (t4 : (hd.toList == [102, 97, 105, 108]) = false)
    (hnm : n = m + 1) (hf2 : n ≤ 1000000000) (hr : RunAt w rb ⟨n, bt, fl⟩) (hne : b ≠ rb) (k0 : w.cell? ⟨b, 0, none⟩ = some (.string hd))
    (hc : ∀ W1, w.grownBy W1 (some rb) → RunAt W1 rb ⟨m, bt, fl⟩ → Calls Tryz.prog 23 #[.pointer (some ⟨rb, 0, none⟩), .pointer (some ⟨b, 0, none⟩), .pointer p] W1 (EvPost w0 rb X W1)) :
    Calls Tryz.prog 11 #[.pointer (some ⟨rb, 0, none⟩), .pointer (some ⟨b, 0, none⟩), .pointer p] w (EvPost w0 rb X w) := by
  obtain ⟨c0, c1, c2, d0, d1, d2⟩ := run_cells hr
  simp only at c0 c1 c2
  have hn0 : ((n : Int) == 0) = false := by simp; omega
  have hs : IntKind.i64.wrap ((n : Int) - 1) = (m : Int) := by rw [IntWalk.i64_in _ (by omega)]; omega
  obtain ⟨W1, hW1⟩ : ∃ W1, W1 = w.setCell ⟨rb, 1, none⟩ (.int .i64 (m : Int)) := ⟨_, rfl⟩
  have hrun : RunAt W1 rb ⟨m, bt, fl⟩ := by rw [hW1]; exact (run_set hr).1 m
  have hg : w.grownBy W1 (some rb) := by rw [hW1]; exact run_grown _
  have k0' : W1.cell? ⟨b, 0, none⟩ = some (.string hd) := off_cell hg hne k0
  have hcc := hc W1 hg hrun
  obtain ⟨e0, e1, e2, f0, f1, f2⟩ := run_cells hrun
  simp only at e0 e1 e2
  obtain ⟨Q, hQ⟩ : ∃ Q, EvPost w0 rb X w = Q := ⟨_, rfl⟩
  rw [hQ]
  have HQ := hid hQ
  have HG := hid hg
  have HC := hid hcc
  clear hQ hg hcc hrun hc hr hnm hne
  rw [hW1] at k0' e0 e1 e2 HC HG
  go_enter Tryz.func11, Tryz.ntmps11
  go_wp2_with (go_at_call 23; refine HC.out.mono ?_; rintro e w2 hp; obtain ⟨u1, bb, rfl, hp⟩ := evPost_shape hp; have HPP := hid hp; clear hp)
  rw [← HQ.out]
  exact ⟨grown_trans HG.out HPP.out.1, HPP.out.2⟩
end Go.Proofs.YtmjhfekcbagibaaGreatDoor

namespace Go.Proofs.YtmjhfekcbagibaaGreatDoor
open Go.RowKit

theorem row_at {w : World} {S : Nat → Prop} {kp : Option Addr} {A : Nat → Nat} {n : Nat} (h : RIn w S kp (ptrs A n)) (hn : 0 < n) : ∃ gk, kp = some ⟨gk, 0, none⟩ ∧ ∀ i, i < n → w.cell? ⟨gk, i, none⟩ = some (.pointer (some ⟨A i, 0, none⟩)) := by
  obtain ⟨gk, rfl, _, _⟩ := h 0 _ (ptrs_get A hn)
  refine ⟨gk, rfl, fun i hi => ?_⟩
  obtain ⟨g2, h2, _, h3⟩ := h i _ (ptrs_get A hi)
  obtain rfl : gk = g2 := by simpa using h2
  exact h3
theorem kept_grown {w0 w w' : World} {rb : Nat} (hk : Kept w0 w) (hz : w0.heap.size ≤ w.heap.size) (hrb : w0.heap.size ≤ rb) (hg : w.grownBy w' (some rb)) : Kept w0 w' :=
  fun k hk2 => (hg.block k (by omega) (fun e => by have : rb = k := by first | exact Option.some.inj e | exact (Option.some.inj e).symm
                                                   omega)).trans (hk k hk2)
theorem hd_ne {a b : ByteArray} {l l2 : List UInt8} (h : a = b) (hl : b.toList = l) (hne : (l == l2) = false) : (a.toList == l2) = false := by rw [h, hl]; exact hne

set_option maxRecDepth 100000 in
set_option maxHeartbeats 4000000 in
theorem value_any {w0 : World} {rb : Nat} (hrb : w0.heap.size ≤ rb) : ∀ (g : Nat) (e : Sx) (b : Nat) (env : List (ByteArray × Sv)) (tenv : List (ByteArray × STy)) (t : STy) (p : Option Addr) (r : R7) (w : World), XIn w0 (fun _ => True) e b → Kept w0 w → w0.heap.size ≤ w.heap.size → RunAt w rb r → r.fuel < g → r.fuel ≤ 1000000000 → r.bit ≤ 1 → EvIn w0 w env p → ETy env tenv → e.an → e.bw → e.typ tenv = some t →
    Calls Tryz.prog 11 #[.pointer (some ⟨rb, 0, none⟩), .pointer (some ⟨b, 0, none⟩), .pointer p] w (EvPost w0 rb (e.ev g env r) w) := by
  intro g
  induction g with
  | zero => intro e b env tenv t p r w _ _ _ _ hf; omega
  | succ g IH =>
    intro e b env tenv t p r w hx hk hz hr hf hf2 hb he hte ha hw ht
    obtain ⟨n, bt, fl⟩ := r
    simp only at hf hf2 hb
    cases n with
    | zero =>
      rw [show e.ev (g + 1) env ⟨0, bt, fl⟩ = (none, ⟨0, bt, fl⟩) from by unfold Sx.ev; rw [if_pos rfl]]
      exact ev_zero hr
    | succ m =>
      have hxl := hx.lt.2
      have hne : b ≠ rb := by omega
      have hf0 : ¬ (⟨m + 1, bt, fl⟩ : R7).fuel = 0 := by simp
      have huse : (⟨m + 1, bt, fl⟩ : R7).use = ⟨m, bt, fl⟩ := rfl
      have hx2 := hx
      cases hx with
      | mk _ _ tp kp kl kc A hS hbk hty hkl hkc hkv hks =>
        obtain ⟨k0, k1, k2, k3, k4, _⟩ := cells_of_5 hbk
        have j0 := hk.cell k0
        have j1 := hk.cell k1
        have ihk : (∀ x s b, e ≠ .lam x s b) → ∀ i k, e.kids[i]? = some k → ∀ (W : World) (rr : R7), Kept w0 W → w0.heap.size ≤ W.heap.size → RunAt W rb rr → rr.fuel ≤ m → rr.bit ≤ 1 → EvIn w0 W env p → (k.ev g env rr).2.bit ≤ 1 ∧ Calls Tryz.prog 11 #[.pointer (some ⟨rb, 0, none⟩), .pointer (some ⟨A i, 0, none⟩), .pointer p] W (EvPost w0 rb (k.ev g env rr) W) := by
          intro hl i k hik W rr hkW hzW hrW hfW hbW heW
          obtain ⟨s, hs⟩ := typ_part hl ht hik
          exact ⟨(ev_ty g k env tenv s rr hbW hte (an_kid ha hik) (bw_kid hw hik) hs).1, IH k (A i) env tenv s p rr W (hks i k hik) hkW hzW hrW (by omega) (by omega) hbW heW hte (an_kid ha hik) (bw_kid hw hik) hs⟩
        cases e with
        | name a =>
          obtain ⟨v, hv, _⟩ := hte.look (lim12_n ht).2
          rw [show (Sx.name a).ev (g + 1) env ⟨m + 1, bt, fl⟩ = (some v, ⟨m, bt, fl⟩) from by rw [Sx.ev, if_neg hf0, ← hv]; rfl]
          exact ev_name hName_l rfl hf2 hr hne j0 j1 he hv
        | bit a =>
          rcases hw with h | h
          · obtain rfl : a = ⟨#[48]⟩ := toList_inj (by rw [h, Go.ByteArray.toList_eq])
            rw [show (Sx.bit ⟨#[48]⟩).ev (g + 1) env ⟨m + 1, bt, fl⟩ = (some (.bit 0), ⟨m, bt, fl⟩) from by rw [Sx.ev, if_neg hf0, show bitOf ⟨#[48]⟩ = 0 from by unfold bitOf; rw [Go.ByteArray.toList_eq]; rfl]; rfl]
            exact ev_bit0 hBit_l rfl hf2 hr hne j0 j1
          · obtain rfl : a = ⟨#[49]⟩ := toList_inj (by rw [h, Go.ByteArray.toList_eq])
            rw [show (Sx.bit ⟨#[49]⟩).ev (g + 1) env ⟨m + 1, bt, fl⟩ = (some (.bit 1), ⟨m, bt, fl⟩) from by rw [Sx.ev, if_neg hf0, show bitOf ⟨#[49]⟩ = 1 from by unfold bitOf; rw [Go.ByteArray.toList_eq]; rfl]; rfl]
            exact ev_bit1 hBit_l rfl hf2 hr hne j0 j1
        | lam x s e2 => exact ev_lam hLam_l rfl hf2 hr hne j0 hx2 he
        | get => exact ev_get hGet_l rfl hf2 hr hne j0
        | fail s => exact ev_fail hFail_l rfl hf2 hr hne j0
        | app d e2 =>
          obtain ⟨a, td, te⟩ := typ_app ht
          obtain rfl : 2 = kl := hkl
          obtain ⟨gk, rfl, hrow⟩ := row_at hkv (by omega)
          refine ev_go (hd_ne rfl hApp_l (by rfl)) (hd_ne rfl hApp_l (by rfl)) (hd_ne rfl hApp_l (by rfl)) (hd_ne rfl hApp_l (by rfl)) (hd_ne rfl hApp_l (by rfl)) rfl hf2 hr hne j0 fun W1 hg1 hr1 => ?_
          refine vp_app (gas := g) (ks := [d, e2]) (env := env) hApp_l rfl (kept_grown hk hz hrb hg1) hrb hr1 hb k0 k4 hrow (he.nm (run_nm hr hg1)) (ihk (by intro x s b h; cases h)) (fun r2 h => by rw [ev_app_eq hf0, huse, h]) (fun vs r2 h hf3 hb3 => ?_)
          obtain ⟨v, u, rfl, hv, hu⟩ := evL_ty2 (r := ⟨m, bt, fl⟩) hb hte ha.1 hw.1 td ha.2 hw.2 te h
          cases hv with
          | clo x _ _ e3 cenv ctenv hce hcs han hbw hct =>
            refine ⟨x, a, e3, cenv, u, rfl, fun W q an hkW hzW hrW heW hxe => ?_⟩
            rw [ev_app_eq hf0, huse, h]
            simp only at hf3
            exact IH e3 an _ _ t q r2 W hxe hkW hzW hrW (by omega) (by omega) hb3 heW (.cons x u a cenv ctenv hu hcs hce) han hbw hct
        | iff d e2 f =>
          obtain ⟨td, te, tf⟩ := typ_iff ht
          obtain rfl : 3 = kl := hkl
          obtain ⟨gk, rfl, hrow⟩ := row_at hkv (by omega)
          refine ev_go (hd_ne rfl hIf_l (by rfl)) (hd_ne rfl hIf_l (by rfl)) (hd_ne rfl hIf_l (by rfl)) (hd_ne rfl hIf_l (by rfl)) (hd_ne rfl hIf_l (by rfl)) rfl hf2 hr hne j0 fun W1 hg1 hr1 => ?_
          have hkk := ihk (by intro x s b h; cases h)
          refine vp_if (gas := g) (ks := [d]) (env := env) hIf_l hkc rfl (kept_grown hk hz hrb hg1) hrb hr1 hb k0 k4 hrow (he.nm (run_nm hr hg1)) (fun i k hik => ?_) (fun r2 h => by rw [ev_iff_eq hf0, huse, h]) (fun vs r2 h hf3 hb3 => ?_)
          · cases i with
            | zero => exact hkk 0 k hik
            | succ i => simp at hik
          · obtain ⟨v, rfl, hv, _⟩ := evL_ty1 (r := ⟨m, bt, fl⟩) hb hte ha.1 hw.1 td h
            cases hv with
            | bit n hn =>
              refine ⟨n, rfl, fun W hkW hzW hrW heW => ?_⟩
              rw [ev_iff_eq hf0, huse, h]
              simp only at hf3 ⊢
              by_cases h1 : n = 1
              · rw [if_pos h1, if_pos h1]; exact (hkk 1 e2 rfl W r2 hkW hzW hrW hf3 hb3 heW).2
              · rw [if_neg h1, if_neg h1]; exact (hkk 2 f rfl W r2 hkW hzW hrW hf3 hb3 heW).2
        | pair d e2 =>
          obtain ⟨a, a2, _, td, te⟩ := typ_pair ht
          obtain rfl : 2 = kl := hkl
          obtain ⟨gk, rfl, hrow⟩ := row_at hkv (by omega)
          refine ev_go (hd_ne rfl hPair_l (by rfl)) (hd_ne rfl hPair_l (by rfl)) (hd_ne rfl hPair_l (by rfl)) (hd_ne rfl hPair_l (by rfl)) (hd_ne rfl hPair_l (by rfl)) rfl hf2 hr hne j0 fun W1 hg1 hr1 => ?_
          refine vp_pair (gas := g) (ks := [d, e2]) (env := env) hPair_l rfl (kept_grown hk hz hrb hg1) hrb hr1 hb k0 k4 hrow (he.nm (run_nm hr hg1)) (ihk (by intro x s b h; cases h)) (fun r2 h => by rw [ev_pair_eq hf0, huse, h]) (fun vs r2 h hf3 hb3 => ?_)
          obtain ⟨v, u, rfl, hv, hu⟩ := evL_ty2 (r := ⟨m, bt, fl⟩) hb hte ha.1 hw.1 td ha.2 hw.2 te h
          exact ⟨v, u, rfl, by rw [ev_pair_eq hf0, huse, h]⟩
        | fst e2 =>
          obtain ⟨a, te⟩ := typ_fst ht
          obtain rfl : 1 = kl := hkl
          obtain ⟨gk, rfl, hrow⟩ := row_at hkv (by omega)
          refine ev_go (hd_ne rfl hFst_l (by rfl)) (hd_ne rfl hFst_l (by rfl)) (hd_ne rfl hFst_l (by rfl)) (hd_ne rfl hFst_l (by rfl)) (hd_ne rfl hFst_l (by rfl)) rfl hf2 hr hne j0 fun W1 hg1 hr1 => ?_
          refine vp_fst (gas := g) (ks := [e2]) (env := env) hFst_l rfl (kept_grown hk hz hrb hg1) hrb hr1 hb k0 k4 hrow (he.nm (run_nm hr hg1)) (ihk (by intro x s b h; cases h)) (fun r2 h => by rw [ev_fst_eq hf0, huse, h]) (fun vs r2 h hf3 hb3 => ?_)
          obtain ⟨v, rfl, hv, _⟩ := evL_ty1 (d := e2) (r := ⟨m, bt, fl⟩) hb hte ha hw te h
          cases hv with
          | pair x y _ _ hx hy => exact ⟨x, y, rfl, by rw [ev_fst_eq hf0, huse, h]⟩
        | snd e2 =>
          obtain ⟨a, te⟩ := typ_snd ht
          obtain rfl : 1 = kl := hkl
          obtain ⟨gk, rfl, hrow⟩ := row_at hkv (by omega)
          refine ev_go (hd_ne rfl hSnd_l (by rfl)) (hd_ne rfl hSnd_l (by rfl)) (hd_ne rfl hSnd_l (by rfl)) (hd_ne rfl hSnd_l (by rfl)) (hd_ne rfl hSnd_l (by rfl)) rfl hf2 hr hne j0 fun W1 hg1 hr1 => ?_
          refine vp_snd (gas := g) (ks := [e2]) (env := env) hSnd_l rfl (kept_grown hk hz hrb hg1) hrb hr1 hb k0 k4 hrow (he.nm (run_nm hr hg1)) (ihk (by intro x s b h; cases h)) (fun r2 h => by rw [ev_snd_eq hf0, huse, h]) (fun vs r2 h hf3 hb3 => ?_)
          obtain ⟨v, rfl, hv, _⟩ := evL_ty1 (d := e2) (r := ⟨m, bt, fl⟩) hb hte ha hw te h
          cases hv with
          | pair x y _ _ hx hy => exact ⟨x, y, rfl, by rw [ev_snd_eq hf0, huse, h]⟩
        | put e2 =>
          obtain ⟨_, te⟩ := typ_put ht
          obtain rfl : 1 = kl := hkl
          obtain ⟨gk, rfl, hrow⟩ := row_at hkv (by omega)
          refine ev_go (hd_ne rfl hPut_l (by rfl)) (hd_ne rfl hPut_l (by rfl)) (hd_ne rfl hPut_l (by rfl)) (hd_ne rfl hPut_l (by rfl)) (hd_ne rfl hPut_l (by rfl)) rfl hf2 hr hne j0 fun W1 hg1 hr1 => ?_
          refine vp_put (gas := g) (ks := [e2]) (env := env) hPut_l rfl (kept_grown hk hz hrb hg1) hrb hr1 hb k0 k4 hrow (he.nm (run_nm hr hg1)) (ihk (by intro x s b h; cases h)) (fun r2 h => by rw [ev_put_eq hf0, huse, h]) (fun vs r2 h hf3 hb3 => ?_)
          obtain ⟨v, rfl, hv, _⟩ := evL_ty1 (d := e2) (r := ⟨m, bt, fl⟩) hb hte ha hw te h
          cases hv with
          | bit n hn => exact ⟨n, rfl, by rw [ev_put_eq hf0, huse, h]⟩
end Go.Proofs.YtmjhfekcbagibaaGreatDoor
