/- Merged: EvM. -/
import Derived.Test.YtmjhfekcbagibaaGreatDoorEV16
import Derived.Test.YtmjhfekcbagibaaGreatDoorEV12
namespace Go.Proofs.YtmjhfekcbagibaaGreatDoor
open Go.RowKit

theorem Tryz.infoSv : (Tryz.prog.info? 47).map (fun i => (i.zero, i.size, i.bytes)) = some (some .nilIface, 1, 16) := by kernel_rfl
theorem sv_fun_fun (v : Value) (w : World) : (Instr.typeAssert (.iface 71 v) 47 71 true).run Tryz.prog w = .ok (.tuple #[v, .bool true]) w := by kernel_rfl
theorem sv_pair_fun (v : Value) (w : World) : (Instr.typeAssert (.iface 73 v) 47 71 true).run Tryz.prog w = .ok (.tuple #[.agg #[.pointer none, .pointer none], .bool false]) w := by kernel_rfl
theorem sv_pair_pair (v : Value) (w : World) : (Instr.typeAssert (.iface 73 v) 47 73 true).run Tryz.prog w = .ok (.tuple #[v, .bool true]) w := by kernel_rfl
theorem sv_bit_fun (v : Value) (w : World) : (Instr.typeAssert (.iface 69 v) 47 71 true).run Tryz.prog w = .ok (.tuple #[.agg #[.pointer none, .pointer none], .bool false]) w := by kernel_rfl
theorem sv_bit_pair (v : Value) (w : World) : (Instr.typeAssert (.iface 69 v) 47 73 true).run Tryz.prog w = .ok (.tuple #[.agg #[.nilIface, .nilIface], .bool false]) w := by kernel_rfl
theorem sv_bit_bit (v : Value) (w : World) : (Instr.typeAssert (.iface 69 v) 47 69 true).run Tryz.prog w = .ok (.tuple #[v, .bool true]) w := by kernel_rfl
/-- Values in memory, one by one. -/
def VsIn (w0 w : World) : List Sv → List Value → Prop
  | [], [] => True
  | v :: vs, u :: us => SvIn w0 w v u ∧ VsIn w0 w vs us
  | _, _ => False
theorem VsIn.nm {w0 w w' : World} (hk : NmKept w w') : ∀ {vs : List Sv} {us : List Value}, VsIn w0 w vs us → VsIn w0 w' vs us
  | [], [], _ => trivial
  | _ :: _, _ :: _, ⟨h1, h2⟩ => ⟨h1.nm hk, h2.nm hk⟩
  | [], _ :: _, h => h.elim
  | _ :: _, [], h => h.elim
theorem VsIn.snoc {w0 w : World} {v : Sv} {u : Value} (h : SvIn w0 w v u) : ∀ {vs : List Sv} {us : List Value}, VsIn w0 w vs us → VsIn w0 w (vs ++ [v]) (us ++ [u])
  | [], [], _ => ⟨h, trivial⟩
  | _ :: _, _ :: _, ⟨h1, h2⟩ => ⟨h1, h2.snoc h⟩
  | [], _ :: _, h => h.elim
  | _ :: _, [], h => h.elim
theorem grow_off {a b c : World} {r0 r : Option Nat} (h : a.grownBy b r0) (hg : b.grownBy c r) (hr : ∀ k, r = some k → a.heap.size ≤ k) : a.grownBy c r0 :=
  ⟨hg.os.trans h.os, hg.tape.trans h.tape, hg.output.trans h.output, Nat.le_trans h.size hg.size, fun k hk hn => (hg.block k (by have := h.size; omega) (fun e => by have := hr k (by first | exact e | exact e.symm); omega)).trans (h.block k hk hn)⟩
theorem own_grown {w w' : World} {base n size rb : Nat} {e : TypeId} {v : Value} {xs : List Value} (h : w.ownsRow base e size v n xs) (hg : w.grownBy w' (some rb)) (hb : rb < base) : w'.ownsRow base e size v n xs := by
  refine ⟨h.1, ?_⟩
  rcases h.2 with ⟨hv, hn⟩ | ⟨g, cap, cur, hv, hbg, hc, hrest⟩
  · exact .inl ⟨hv, hn⟩
  · refine .inr ⟨g, cap, cur, hv, hbg, ?_, hrest⟩
    rw [hg.block g (lt_of_block hc) (fun e => by have : rb = g := by first | exact Option.some.inj e | exact (Option.some.inj e).symm
                                                 omega)]
    exact hc
/-- Own cells are a row. -/
theorem own_rowS {w : World} {base n c : Nat} {t : TypeId} {q : Option Addr} {xs : List Value} (h : w.ownsRow base t 1 (.slice q n c) n xs) : RIn w (fun _ => True) q xs := by
  intro i v hv
  have hl := h.1
  rcases h.2 with ⟨hv2, hn⟩ | ⟨g, cap, cur, hv2, hbg, _⟩
  · have := (List.getElem?_eq_some_iff.1 hv).1
    omega
  · obtain ⟨rfl, _⟩ : q = some ⟨g, 0, none⟩ ∧ c = cap := by simp at hv2; exact hv2
    have hc := h.cells (g := g) rfl i v hv
    have hadd : (⟨g, 0, none⟩ : Addr).add i = ⟨g, i, none⟩ := by unfold Addr.add; split <;> simp_all
    rw [hadd] at hc
    exact ⟨g, rfl, trivial, hc⟩
theorem vs1 {w0 w : World} {vs : List Sv} {us : List Value} (h : VsIn w0 w vs us) (hl : vs.length = 1) : ∃ v u, vs = [v] ∧ us = [u] ∧ SvIn w0 w v u := match vs, us, h, hl with
  | [v], [u], h, _ => ⟨v, u, rfl, rfl, h.1⟩
  | [_], _ :: _ :: _, h, _ => h.2.elim
  | [_], [], h, _ => h.elim
theorem vs2 {w0 w : World} {vs : List Sv} {us : List Value} (h : VsIn w0 w vs us) (hl : vs.length = 2) : ∃ v v2 u u2, vs = [v, v2] ∧ us = [u, u2] ∧ SvIn w0 w v u ∧ SvIn w0 w v2 u2 := match vs, us, h, hl with
  | [v, v2], [u, u2], h, _ => ⟨v, v2, u, u2, rfl, rfl, h.1, h.2.1⟩
  | [_, _], _ :: _ :: _ :: _, h, _ => h.2.2.elim
  | [_, _], [_], h, _ => h.2.elim
  | [_, _], [], h, _ => h.elim

set_option maxRecDepth 100000 in
set_option maxHeartbeats 4000000 in
theorem vp_fst {w0 w : World} {rb b gk kc gas : Nat} {r : R7} {hd : ByteArray} {A : Nat → Nat} {ks : List Sx} {env : List (ByteArray × Sv)} {p : Option Addr} {X : Option Sv × R7} (hhd : hd.toList = [102, 115, 116]) (hks : ks.length = 1) (hk : Kept w0 w) (hrb : w0.heap.size ≤ rb) (hr : RunAt w rb r) (hb1 : r.bit ≤ 1)
    (k0 : w0.cell? ⟨b, 0, none⟩ = some (.string hd)) (k4 : w0.cell? ⟨b, 4, none⟩ = some (.slice (some ⟨gk, 0, none⟩) 1 kc)) (krow : ∀ i, i < 1 → w0.cell? ⟨gk, i, none⟩ = some (.pointer (some ⟨A i, 0, none⟩))) (he : EvIn w0 w env p)
    (ih : ∀ i k, ks[i]? = some k → ∀ (W : World) (rr : R7), Kept w0 W → w0.heap.size ≤ W.heap.size → RunAt W rb rr → rr.fuel ≤ r.fuel → rr.bit ≤ 1 → EvIn w0 W env p → (k.ev gas env rr).2.bit ≤ 1 ∧ Calls Tryz.prog 11 #[.pointer (some ⟨rb, 0, none⟩), .pointer (some ⟨A i, 0, none⟩), .pointer p] W (EvPost w0 rb (k.ev gas env rr) W))
    (hX0 : ∀ r2, evL gas ks env r = (none, r2) → X = (none, r2))
    (hX1 : ∀ vs r2, evL gas ks env r = (some vs, r2) → r2.fuel ≤ r.fuel → r2.bit ≤ 1 → ∃ x y, vs = [.pair x y] ∧ X = (some x, r2)) :
    Calls Tryz.prog 23 #[.pointer (some ⟨rb, 0, none⟩), .pointer (some ⟨b, 0, none⟩), .pointer p] w (EvPost w0 rb X w) := by
  have t0 : (hd.toList == [105, 102]) = false := by rw [hhd]; rfl
  have t1 : (hd.toList == [112, 97, 105, 114]) = false := by rw [hhd]; rfl
  have t2 : (hd.toList == [102, 115, 116]) = true := by rw [hhd]; rfl
  have t3 : (hd.toList == [112, 117, 116]) = false := by rw [hhd]; rfl
  have hrl : rb < w.heap.size := lt_of_block hr
  obtain ⟨i0, hi0, hz0, hz1, hz2⟩ := info_parts Tryz.infoSv
  obtain ⟨Q, hQ⟩ : ∃ Q, EvPost w0 rb X w = Q := ⟨_, rfl⟩
  rw [hQ]
  have HQ := hid hQ
  have HR := hid hr
  have HE := hid he
  have HK := hid hk
  have HIH := hid ih
  have HX0 := hid hX0
  have HX1 := hid hX1
  have HKS := hid hks
  have HROW := hid krow
  have HK4 := hid k4
  have HK0 := hid k0
  have j0 := hk.cell k0
  have j4 := hk.cell k4
  clear hQ hr he hk ih hX0 hX1 hks krow k4 k0 hhd
  go_enter Tryz.func23, Tryz.ntmps23
  go_wp2_with fail
  go_loopw [9, 33] (fun v u wr => ∃ (i c : Nat) (q : Option Addr) (us : List Value) (vs : List Sv) (rr : R7), i ≤ 1 ∧ u = .int .i64 (i : Int) ∧ v = .slice q i c ∧ wr.ownsRow w.heap.size 47 1 (.slice q i c) i us ∧ Hid (w.grownBy wr (some rb) ∧ RunAt wr rb rr ∧ rr.fuel ≤ r.fuel ∧ rr.bit ≤ 1 ∧ VsIn w0 wr vs us ∧ evL gas ks env r = evOn vs (evL gas (ks.drop i) env rr))) (fun _ u _ => 1 - (intOf u).toNat)
  case atStart => exact ⟨0, 0, none, [], [], r, Nat.zero_le _, rfl, rfl, World.ownsRow_nil _ _ _ _, hid ⟨World.grownBy.refl _ _, HR.out, Nat.le_refl _, hb1, trivial, by rw [List.drop_zero, evOn_nil]⟩⟩
  case round =>
    obtain ⟨i, c, q, us, vs, rr, hi, rfl, rfl, hown, hh⟩ := hrel
    obtain ⟨hg, hra, hfu, hbt, hvs, hev⟩ := hh.out
    have hz := hg.size
    have hkw : Kept w0 wr := fun k hk2 => (hg.block k (by omega) (fun e => by have : rb = k := by first | exact Option.some.inj e | exact (Option.some.inj e).symm
                                                                              omega)).trans (HK.out k hk2)
    have c0 := hkw.cell HK0.out
    have c4 := hkw.cell HK4.out
    have hew := HE.out.nm (run_nm HR.out hg)
    have HOWN := hid hown
    have HG := hid hg
    have HRA := hid hra
    have HVS := hid hvs
    have HEV := hid hev
    have HKW := hid hkw
    by_cases hlt : i < 1
    · obtain ⟨k, hik⟩ : ∃ k, ks[i]? = some k := ⟨_, List.getElem?_eq_getElem (by rw [HKS.out]; exact hlt)⟩
      have cr := hkw.cell (HROW.out i (by omega))
      obtain ⟨hbb, hcall⟩ := HIH.out i k hik wr rr hkw (by omega) hra hfu hbt hew
      have HC := hid hcall
      have hst := evL_step (g := gas) hik env rr
      have hfl := ev_fuel gas k env rr
      obtain ⟨x, hx⟩ : ∃ x, k.ev gas env rr = x := ⟨_, rfl⟩
      rw [hx] at HC hst hbb hfl
      obtain ⟨o, r1⟩ := x
      cases o with
      | none =>
        have HXN := hid (HX0.out r1 (by rw [HEV.out, hst]; rfl))
        clear hst hik hx hcall hown hh hg hra hvs hev hkw hew hbb
        go_wp2_with (go_at_call 11; refine HC.out.mono ?_; rintro e w1' hp; obtain ⟨hg1, hr1, u1, rfl⟩ := hp; have HG1 := hid hg1; have HR1 := hid hr1; clear hg1 hr1)
        rw [← HQ.out, HXN.out]
        exact ⟨grown_trans HG.out HG1.out, HR1.out, _, rfl⟩
      | some v1 =>
        have HST := hid (show evL gas ks env r = evOn (vs ++ [v1]) (evL gas (ks.drop (i + 1)) env r1) by rw [HEV.out, hst, ← evOn_app])
        clear hst hik hx hcall hown hh hg hra hvs hev hkw hew
        go_wp2_with (first | (at_builtin; refine wpList_append_at _ rfl (.tmp 46) (.tmp 48) 85 rfl w.heap.size 47 i0 .nilIface 1 16 Tryz.underlying85 hi0 hz0 hz1 hz2 rfl (by decide) (.slice q i c) i _ rfl (HO1.out.alloc _) ⟨w1'.heap.size, 0, none⟩ 1 1 [.iface ut ux] rfl rfl (cells_new1 _ _ _ _ rfl) (by intro u hu; simp at hu; subst hu; rfl) (by decide) (by unfold maxLen; omega) (by omega) (by simp; omega) ?_; intro v' w2 hown2 hg2 hw2 hv2; obtain ⟨g2, kc2, rfl⟩ := hv2; have HGG := hid hg2; have HO := hid hown2; clear hg2 hown2 hw2) | (go_at_call 11; refine HC.out.mono ?_; rintro e w1' hp; obtain ⟨hg1, hr1, u1, rfl, hu1⟩ := hp; obtain ⟨ut, ux, rfl⟩ := hu1.iface; have HG1 := hid hg1; have HR1 := hid hr1; have HU1 := hid hu1; have HO1 := hid (own_grown HOWN.out hg1 hrl); have s1 := hg1.size; clear hg1 hr1 hu1))
        go_roundw
        case rel =>
          have hal : Kept w1' (w1'.alloc (.cells #[.iface ut ux] 47)) := (Kept.refl w1').alloc (Nat.le_refl _) _
          have hoa := HO1.out.alloc (.cells #[.iface ut ux] 47)
          have n1 : NmKept wr w2 := (run_nm HRA.out HG1.out).trans ((Kept.nm hal).trans (nm_row hoa HGG.out (by decide)))
          have n2 : NmKept w1' w2 := (Kept.nm hal).trans (nm_row hoa HGG.out (by decide))
          have gA : w.grownBy (w1'.alloc (.cells #[.iface ut ux] 47)) (some rb) := grow_off (grown_trans HG.out HG1.out) (Below.grownBy ((Below.refl w1'.heap.size w1').alloc (Nat.le_refl _) _) (Nat.le_refl _) (n := none)) (fun k e => by cases e)
          refine ⟨i + 1, kc2, some ⟨g2, 0, none⟩, us ++ [.iface ut ux], vs ++ [v1], r1, by omega, by go_num, rfl, HO.out, hid ⟨grow_off gA HGG.out (fun k e => (HOWN.out.lt k e).1), ?_, Nat.le_trans hfl hfu, hbb, (HVS.out.nm n1).snoc (HU1.out.nm n2), HST.out⟩⟩
          have hrl1 : rb < w1'.heap.size := lt_of_block HR1.out
          show w2.heap[rb]? = _
          rw [HGG.out.block rb (by simp; omega) (fun e => by have := (HOWN.out.lt rb (by first | exact e | exact e.symm)).1; omega), heap_alloc_old _ _ hrl1]
          exact HR1.out
        case measure => simp [intOf]; omega
    · have hin : i = 1 := by omega
      subst hin
      have hfin : evL gas ks env r = (some vs, rr) := by
        rw [HEV.out, List.drop_of_length_le (by rw [HKS.out]; omega)]
        simp [evL, evOn]
      have HFIN := hid (HX1.out vs rr hfin hfu hbt)
      have hvl := evL_len hfin
      rw [HKS.out] at hvl
      have hrow := own_rowS hown
      have hul : us.length = 1 := hown.1
      obtain ⟨v, u, rfl, rfl, hsv⟩ := vs1 HVS.out hvl
      obtain ⟨gq, rfl, _, e0⟩ := hrow 0 u rfl
      obtain ⟨x, y, hv0, hXE⟩ := HFIN.out
      obtain rfl : v = .pair x y := by simpa using hv0
      cases hsv with
      | pair _ _ va vb ha hb =>
        obtain ⟨ta, xa, rfl⟩ := ha.iface
        obtain ⟨tb, xb, rfl⟩ := hb.iface
        have HXE := hid hXE
        have HHA := hid ha
        have HHB := hid hb
        clear hXE hv0 ha hb hh hown hg hra hvs hev hkw hew hfin hvl hrow hul HFIN
        have as1 := sv_pair_fun (.agg #[.iface ta xa, .iface tb xb])
        have as2 := sv_pair_pair (.agg #[.iface ta xa, .iface tb xb])
        have c0' : ∀ o, (wr.alloc o).cell? ⟨b, 0, none⟩ = some (.string hd) := fun o => (World.cell?_of_block (w := wr) (heap_alloc_old wr o (World.block_lt_of_cell? wr _ c0))).trans c0
        go_wp2_with fail
        rw [← HQ.out, HXE.out]
        refine ⟨grow_off HG.out (Below.grownBy ((Below.refl wr.heap.size wr).alloc (Nat.le_refl _) _) (Nat.le_refl _) (n := none)) (fun k e => by cases e), ?_, _, rfl, HHA.out.nm (Kept.nm ((Kept.refl wr).alloc (Nat.le_refl _) _))⟩
        show (wr.alloc _).heap[rb]? = _
        rw [heap_alloc_old _ _ (lt_of_block HRA.out)]
        exact HRA.out

set_option maxRecDepth 100000 in
set_option maxHeartbeats 4000000 in
theorem vp_snd {w0 w : World} {rb b gk kc gas : Nat} {r : R7} {hd : ByteArray} {A : Nat → Nat} {ks : List Sx} {env : List (ByteArray × Sv)} {p : Option Addr} {X : Option Sv × R7} (hhd : hd.toList = [115, 110, 100]) (hks : ks.length = 1) (hk : Kept w0 w) (hrb : w0.heap.size ≤ rb) (hr : RunAt w rb r) (hb1 : r.bit ≤ 1)
    (k0 : w0.cell? ⟨b, 0, none⟩ = some (.string hd)) (k4 : w0.cell? ⟨b, 4, none⟩ = some (.slice (some ⟨gk, 0, none⟩) 1 kc)) (krow : ∀ i, i < 1 → w0.cell? ⟨gk, i, none⟩ = some (.pointer (some ⟨A i, 0, none⟩))) (he : EvIn w0 w env p)
    (ih : ∀ i k, ks[i]? = some k → ∀ (W : World) (rr : R7), Kept w0 W → w0.heap.size ≤ W.heap.size → RunAt W rb rr → rr.fuel ≤ r.fuel → rr.bit ≤ 1 → EvIn w0 W env p → (k.ev gas env rr).2.bit ≤ 1 ∧ Calls Tryz.prog 11 #[.pointer (some ⟨rb, 0, none⟩), .pointer (some ⟨A i, 0, none⟩), .pointer p] W (EvPost w0 rb (k.ev gas env rr) W))
    (hX0 : ∀ r2, evL gas ks env r = (none, r2) → X = (none, r2))
    (hX1 : ∀ vs r2, evL gas ks env r = (some vs, r2) → r2.fuel ≤ r.fuel → r2.bit ≤ 1 → ∃ x y, vs = [.pair x y] ∧ X = (some y, r2)) :
    Calls Tryz.prog 23 #[.pointer (some ⟨rb, 0, none⟩), .pointer (some ⟨b, 0, none⟩), .pointer p] w (EvPost w0 rb X w) := by
  have t0 : (hd.toList == [105, 102]) = false := by rw [hhd]; rfl
  have t1 : (hd.toList == [112, 97, 105, 114]) = false := by rw [hhd]; rfl
  have t2 : (hd.toList == [102, 115, 116]) = false := by rw [hhd]; rfl
  have t3 : (hd.toList == [112, 117, 116]) = false := by rw [hhd]; rfl
  have hrl : rb < w.heap.size := lt_of_block hr
  obtain ⟨i0, hi0, hz0, hz1, hz2⟩ := info_parts Tryz.infoSv
  obtain ⟨Q, hQ⟩ : ∃ Q, EvPost w0 rb X w = Q := ⟨_, rfl⟩
  rw [hQ]
  have HQ := hid hQ
  have HR := hid hr
  have HE := hid he
  have HK := hid hk
  have HIH := hid ih
  have HX0 := hid hX0
  have HX1 := hid hX1
  have HKS := hid hks
  have HROW := hid krow
  have HK4 := hid k4
  have HK0 := hid k0
  have j0 := hk.cell k0
  have j4 := hk.cell k4
  clear hQ hr he hk ih hX0 hX1 hks krow k4 k0 hhd
  go_enter Tryz.func23, Tryz.ntmps23
  go_wp2_with fail
  go_loopw [9, 33] (fun v u wr => ∃ (i c : Nat) (q : Option Addr) (us : List Value) (vs : List Sv) (rr : R7), i ≤ 1 ∧ u = .int .i64 (i : Int) ∧ v = .slice q i c ∧ wr.ownsRow w.heap.size 47 1 (.slice q i c) i us ∧ Hid (w.grownBy wr (some rb) ∧ RunAt wr rb rr ∧ rr.fuel ≤ r.fuel ∧ rr.bit ≤ 1 ∧ VsIn w0 wr vs us ∧ evL gas ks env r = evOn vs (evL gas (ks.drop i) env rr))) (fun _ u _ => 1 - (intOf u).toNat)
  case atStart => exact ⟨0, 0, none, [], [], r, Nat.zero_le _, rfl, rfl, World.ownsRow_nil _ _ _ _, hid ⟨World.grownBy.refl _ _, HR.out, Nat.le_refl _, hb1, trivial, by rw [List.drop_zero, evOn_nil]⟩⟩
  case round =>
    obtain ⟨i, c, q, us, vs, rr, hi, rfl, rfl, hown, hh⟩ := hrel
    obtain ⟨hg, hra, hfu, hbt, hvs, hev⟩ := hh.out
    have hz := hg.size
    have hkw : Kept w0 wr := fun k hk2 => (hg.block k (by omega) (fun e => by have : rb = k := by first | exact Option.some.inj e | exact (Option.some.inj e).symm
                                                                              omega)).trans (HK.out k hk2)
    have c0 := hkw.cell HK0.out
    have c4 := hkw.cell HK4.out
    have hew := HE.out.nm (run_nm HR.out hg)
    have HOWN := hid hown
    have HG := hid hg
    have HRA := hid hra
    have HVS := hid hvs
    have HEV := hid hev
    have HKW := hid hkw
    by_cases hlt : i < 1
    · obtain ⟨k, hik⟩ : ∃ k, ks[i]? = some k := ⟨_, List.getElem?_eq_getElem (by rw [HKS.out]; exact hlt)⟩
      have cr := hkw.cell (HROW.out i (by omega))
      obtain ⟨hbb, hcall⟩ := HIH.out i k hik wr rr hkw (by omega) hra hfu hbt hew
      have HC := hid hcall
      have hst := evL_step (g := gas) hik env rr
      have hfl := ev_fuel gas k env rr
      obtain ⟨x, hx⟩ : ∃ x, k.ev gas env rr = x := ⟨_, rfl⟩
      rw [hx] at HC hst hbb hfl
      obtain ⟨o, r1⟩ := x
      cases o with
      | none =>
        have HXN := hid (HX0.out r1 (by rw [HEV.out, hst]; rfl))
        clear hst hik hx hcall hown hh hg hra hvs hev hkw hew hbb
        go_wp2_with (go_at_call 11; refine HC.out.mono ?_; rintro e w1' hp; obtain ⟨hg1, hr1, u1, rfl⟩ := hp; have HG1 := hid hg1; have HR1 := hid hr1; clear hg1 hr1)
        rw [← HQ.out, HXN.out]
        exact ⟨grown_trans HG.out HG1.out, HR1.out, _, rfl⟩
      | some v1 =>
        have HST := hid (show evL gas ks env r = evOn (vs ++ [v1]) (evL gas (ks.drop (i + 1)) env r1) by rw [HEV.out, hst, ← evOn_app])
        clear hst hik hx hcall hown hh hg hra hvs hev hkw hew
        go_wp2_with (first | (at_builtin; refine wpList_append_at _ rfl (.tmp 46) (.tmp 48) 85 rfl w.heap.size 47 i0 .nilIface 1 16 Tryz.underlying85 hi0 hz0 hz1 hz2 rfl (by decide) (.slice q i c) i _ rfl (HO1.out.alloc _) ⟨w1'.heap.size, 0, none⟩ 1 1 [.iface ut ux] rfl rfl (cells_new1 _ _ _ _ rfl) (by intro u hu; simp at hu; subst hu; rfl) (by decide) (by unfold maxLen; omega) (by omega) (by simp; omega) ?_; intro v' w2 hown2 hg2 hw2 hv2; obtain ⟨g2, kc2, rfl⟩ := hv2; have HGG := hid hg2; have HO := hid hown2; clear hg2 hown2 hw2) | (go_at_call 11; refine HC.out.mono ?_; rintro e w1' hp; obtain ⟨hg1, hr1, u1, rfl, hu1⟩ := hp; obtain ⟨ut, ux, rfl⟩ := hu1.iface; have HG1 := hid hg1; have HR1 := hid hr1; have HU1 := hid hu1; have HO1 := hid (own_grown HOWN.out hg1 hrl); have s1 := hg1.size; clear hg1 hr1 hu1))
        go_roundw
        case rel =>
          have hal : Kept w1' (w1'.alloc (.cells #[.iface ut ux] 47)) := (Kept.refl w1').alloc (Nat.le_refl _) _
          have hoa := HO1.out.alloc (.cells #[.iface ut ux] 47)
          have n1 : NmKept wr w2 := (run_nm HRA.out HG1.out).trans ((Kept.nm hal).trans (nm_row hoa HGG.out (by decide)))
          have n2 : NmKept w1' w2 := (Kept.nm hal).trans (nm_row hoa HGG.out (by decide))
          have gA : w.grownBy (w1'.alloc (.cells #[.iface ut ux] 47)) (some rb) := grow_off (grown_trans HG.out HG1.out) (Below.grownBy ((Below.refl w1'.heap.size w1').alloc (Nat.le_refl _) _) (Nat.le_refl _) (n := none)) (fun k e => by cases e)
          refine ⟨i + 1, kc2, some ⟨g2, 0, none⟩, us ++ [.iface ut ux], vs ++ [v1], r1, by omega, by go_num, rfl, HO.out, hid ⟨grow_off gA HGG.out (fun k e => (HOWN.out.lt k e).1), ?_, Nat.le_trans hfl hfu, hbb, (HVS.out.nm n1).snoc (HU1.out.nm n2), HST.out⟩⟩
          have hrl1 : rb < w1'.heap.size := lt_of_block HR1.out
          show w2.heap[rb]? = _
          rw [HGG.out.block rb (by simp; omega) (fun e => by have := (HOWN.out.lt rb (by first | exact e | exact e.symm)).1; omega), heap_alloc_old _ _ hrl1]
          exact HR1.out
        case measure => simp [intOf]; omega
    · have hin : i = 1 := by omega
      subst hin
      have hfin : evL gas ks env r = (some vs, rr) := by
        rw [HEV.out, List.drop_of_length_le (by rw [HKS.out]; omega)]
        simp [evL, evOn]
      have HFIN := hid (HX1.out vs rr hfin hfu hbt)
      have hvl := evL_len hfin
      rw [HKS.out] at hvl
      have hrow := own_rowS hown
      have hul : us.length = 1 := hown.1
      obtain ⟨v, u, rfl, rfl, hsv⟩ := vs1 HVS.out hvl
      obtain ⟨gq, rfl, _, e0⟩ := hrow 0 u rfl
      obtain ⟨x, y, hv0, hXE⟩ := HFIN.out
      obtain rfl : v = .pair x y := by simpa using hv0
      cases hsv with
      | pair _ _ va vb ha hb =>
        obtain ⟨ta, xa, rfl⟩ := ha.iface
        obtain ⟨tb, xb, rfl⟩ := hb.iface
        have HXE := hid hXE
        have HHA := hid ha
        have HHB := hid hb
        clear hXE hv0 ha hb hh hown hg hra hvs hev hkw hew hfin hvl hrow hul HFIN
        have as1 := sv_pair_fun (.agg #[.iface ta xa, .iface tb xb])
        have as2 := sv_pair_pair (.agg #[.iface ta xa, .iface tb xb])
        have c0' : ∀ o, (wr.alloc o).cell? ⟨b, 0, none⟩ = some (.string hd) := fun o => (World.cell?_of_block (w := wr) (heap_alloc_old wr o (World.block_lt_of_cell? wr _ c0))).trans c0
        go_wp2_with fail
        rw [← HQ.out, HXE.out]
        refine ⟨grow_off HG.out (Below.grownBy ((Below.refl wr.heap.size wr).alloc (Nat.le_refl _) _) (Nat.le_refl _) (n := none)) (fun k e => by cases e), ?_, _, rfl, HHB.out.nm (Kept.nm ((Kept.refl wr).alloc (Nat.le_refl _) _))⟩
        show (wr.alloc _).heap[rb]? = _
        rw [heap_alloc_old _ _ (lt_of_block HRA.out)]
        exact HRA.out

set_option maxRecDepth 100000 in
set_option maxHeartbeats 4000000 in
theorem vp_put {w0 w : World} {rb b gk kc gas : Nat} {r : R7} {hd : ByteArray} {A : Nat → Nat} {ks : List Sx} {env : List (ByteArray × Sv)} {p : Option Addr} {X : Option Sv × R7} (hhd : hd.toList = [112, 117, 116]) (hks : ks.length = 1) (hk : Kept w0 w) (hrb : w0.heap.size ≤ rb) (hr : RunAt w rb r) (hb1 : r.bit ≤ 1)
    (k0 : w0.cell? ⟨b, 0, none⟩ = some (.string hd)) (k4 : w0.cell? ⟨b, 4, none⟩ = some (.slice (some ⟨gk, 0, none⟩) 1 kc)) (krow : ∀ i, i < 1 → w0.cell? ⟨gk, i, none⟩ = some (.pointer (some ⟨A i, 0, none⟩))) (he : EvIn w0 w env p)
    (ih : ∀ i k, ks[i]? = some k → ∀ (W : World) (rr : R7), Kept w0 W → w0.heap.size ≤ W.heap.size → RunAt W rb rr → rr.fuel ≤ r.fuel → rr.bit ≤ 1 → EvIn w0 W env p → (k.ev gas env rr).2.bit ≤ 1 ∧ Calls Tryz.prog 11 #[.pointer (some ⟨rb, 0, none⟩), .pointer (some ⟨A i, 0, none⟩), .pointer p] W (EvPost w0 rb (k.ev gas env rr) W))
    (hX0 : ∀ r2, evL gas ks env r = (none, r2) → X = (none, r2))
    (hX1 : ∀ vs r2, evL gas ks env r = (some vs, r2) → r2.fuel ≤ r.fuel → r2.bit ≤ 1 → ∃ n, vs = [.bit n] ∧ X = (some (.bit n), r2.to n)) :
    Calls Tryz.prog 23 #[.pointer (some ⟨rb, 0, none⟩), .pointer (some ⟨b, 0, none⟩), .pointer p] w (EvPost w0 rb X w) := by
  have t0 : (hd.toList == [105, 102]) = false := by rw [hhd]; rfl
  have t1 : (hd.toList == [112, 97, 105, 114]) = false := by rw [hhd]; rfl
  have t2 : (hd.toList == [102, 115, 116]) = false := by rw [hhd]; rfl
  have t3 : (hd.toList == [112, 117, 116]) = true := by rw [hhd]; rfl
  have hrl : rb < w.heap.size := lt_of_block hr
  obtain ⟨i0, hi0, hz0, hz1, hz2⟩ := info_parts Tryz.infoSv
  obtain ⟨Q, hQ⟩ : ∃ Q, EvPost w0 rb X w = Q := ⟨_, rfl⟩
  rw [hQ]
  have HQ := hid hQ
  have HR := hid hr
  have HE := hid he
  have HK := hid hk
  have HIH := hid ih
  have HX0 := hid hX0
  have HX1 := hid hX1
  have HKS := hid hks
  have HROW := hid krow
  have HK4 := hid k4
  have HK0 := hid k0
  have j0 := hk.cell k0
  have j4 := hk.cell k4
  clear hQ hr he hk ih hX0 hX1 hks krow k4 k0 hhd
  go_enter Tryz.func23, Tryz.ntmps23
  go_wp2_with fail
  go_loopw [9, 33] (fun v u wr => ∃ (i c : Nat) (q : Option Addr) (us : List Value) (vs : List Sv) (rr : R7), i ≤ 1 ∧ u = .int .i64 (i : Int) ∧ v = .slice q i c ∧ wr.ownsRow w.heap.size 47 1 (.slice q i c) i us ∧ Hid (w.grownBy wr (some rb) ∧ RunAt wr rb rr ∧ rr.fuel ≤ r.fuel ∧ rr.bit ≤ 1 ∧ VsIn w0 wr vs us ∧ evL gas ks env r = evOn vs (evL gas (ks.drop i) env rr))) (fun _ u _ => 1 - (intOf u).toNat)
  case atStart => exact ⟨0, 0, none, [], [], r, Nat.zero_le _, rfl, rfl, World.ownsRow_nil _ _ _ _, hid ⟨World.grownBy.refl _ _, HR.out, Nat.le_refl _, hb1, trivial, by rw [List.drop_zero, evOn_nil]⟩⟩
  case round =>
    obtain ⟨i, c, q, us, vs, rr, hi, rfl, rfl, hown, hh⟩ := hrel
    obtain ⟨hg, hra, hfu, hbt, hvs, hev⟩ := hh.out
    have hz := hg.size
    have hkw : Kept w0 wr := fun k hk2 => (hg.block k (by omega) (fun e => by have : rb = k := by first | exact Option.some.inj e | exact (Option.some.inj e).symm
                                                                              omega)).trans (HK.out k hk2)
    have c0 := hkw.cell HK0.out
    have c4 := hkw.cell HK4.out
    have hew := HE.out.nm (run_nm HR.out hg)
    have HOWN := hid hown
    have HG := hid hg
    have HRA := hid hra
    have HVS := hid hvs
    have HEV := hid hev
    have HKW := hid hkw
    by_cases hlt : i < 1
    · obtain ⟨k, hik⟩ : ∃ k, ks[i]? = some k := ⟨_, List.getElem?_eq_getElem (by rw [HKS.out]; exact hlt)⟩
      have cr := hkw.cell (HROW.out i (by omega))
      obtain ⟨hbb, hcall⟩ := HIH.out i k hik wr rr hkw (by omega) hra hfu hbt hew
      have HC := hid hcall
      have hst := evL_step (g := gas) hik env rr
      have hfl := ev_fuel gas k env rr
      obtain ⟨x, hx⟩ : ∃ x, k.ev gas env rr = x := ⟨_, rfl⟩
      rw [hx] at HC hst hbb hfl
      obtain ⟨o, r1⟩ := x
      cases o with
      | none =>
        have HXN := hid (HX0.out r1 (by rw [HEV.out, hst]; rfl))
        clear hst hik hx hcall hown hh hg hra hvs hev hkw hew hbb
        go_wp2_with (go_at_call 11; refine HC.out.mono ?_; rintro e w1' hp; obtain ⟨hg1, hr1, u1, rfl⟩ := hp; have HG1 := hid hg1; have HR1 := hid hr1; clear hg1 hr1)
        rw [← HQ.out, HXN.out]
        exact ⟨grown_trans HG.out HG1.out, HR1.out, _, rfl⟩
      | some v1 =>
        have HST := hid (show evL gas ks env r = evOn (vs ++ [v1]) (evL gas (ks.drop (i + 1)) env r1) by rw [HEV.out, hst, ← evOn_app])
        clear hst hik hx hcall hown hh hg hra hvs hev hkw hew
        go_wp2_with (first | (at_builtin; refine wpList_append_at _ rfl (.tmp 46) (.tmp 48) 85 rfl w.heap.size 47 i0 .nilIface 1 16 Tryz.underlying85 hi0 hz0 hz1 hz2 rfl (by decide) (.slice q i c) i _ rfl (HO1.out.alloc _) ⟨w1'.heap.size, 0, none⟩ 1 1 [.iface ut ux] rfl rfl (cells_new1 _ _ _ _ rfl) (by intro u hu; simp at hu; subst hu; rfl) (by decide) (by unfold maxLen; omega) (by omega) (by simp; omega) ?_; intro v' w2 hown2 hg2 hw2 hv2; obtain ⟨g2, kc2, rfl⟩ := hv2; have HGG := hid hg2; have HO := hid hown2; clear hg2 hown2 hw2) | (go_at_call 11; refine HC.out.mono ?_; rintro e w1' hp; obtain ⟨hg1, hr1, u1, rfl, hu1⟩ := hp; obtain ⟨ut, ux, rfl⟩ := hu1.iface; have HG1 := hid hg1; have HR1 := hid hr1; have HU1 := hid hu1; have HO1 := hid (own_grown HOWN.out hg1 hrl); have s1 := hg1.size; clear hg1 hr1 hu1))
        go_roundw
        case rel =>
          have hal : Kept w1' (w1'.alloc (.cells #[.iface ut ux] 47)) := (Kept.refl w1').alloc (Nat.le_refl _) _
          have hoa := HO1.out.alloc (.cells #[.iface ut ux] 47)
          have n1 : NmKept wr w2 := (run_nm HRA.out HG1.out).trans ((Kept.nm hal).trans (nm_row hoa HGG.out (by decide)))
          have n2 : NmKept w1' w2 := (Kept.nm hal).trans (nm_row hoa HGG.out (by decide))
          have gA : w.grownBy (w1'.alloc (.cells #[.iface ut ux] 47)) (some rb) := grow_off (grown_trans HG.out HG1.out) (Below.grownBy ((Below.refl w1'.heap.size w1').alloc (Nat.le_refl _) _) (Nat.le_refl _) (n := none)) (fun k e => by cases e)
          refine ⟨i + 1, kc2, some ⟨g2, 0, none⟩, us ++ [.iface ut ux], vs ++ [v1], r1, by omega, by go_num, rfl, HO.out, hid ⟨grow_off gA HGG.out (fun k e => (HOWN.out.lt k e).1), ?_, Nat.le_trans hfl hfu, hbb, (HVS.out.nm n1).snoc (HU1.out.nm n2), HST.out⟩⟩
          have hrl1 : rb < w1'.heap.size := lt_of_block HR1.out
          show w2.heap[rb]? = _
          rw [HGG.out.block rb (by simp; omega) (fun e => by have := (HOWN.out.lt rb (by first | exact e | exact e.symm)).1; omega), heap_alloc_old _ _ hrl1]
          exact HR1.out
        case measure => simp [intOf]; omega
    · have hin : i = 1 := by omega
      subst hin
      have hfin : evL gas ks env r = (some vs, rr) := by
        rw [HEV.out, List.drop_of_length_le (by rw [HKS.out]; omega)]
        simp [evL, evOn]
      have HFIN := hid (HX1.out vs rr hfin hfu hbt)
      have hvl := evL_len hfin
      rw [HKS.out] at hvl
      have hrow := own_rowS hown
      have hul : us.length = 1 := hown.1
      obtain ⟨v, u, rfl, rfl, hsv⟩ := vs1 HVS.out hvl
      obtain ⟨gq, rfl, _, e0⟩ := hrow 0 u rfl
      obtain ⟨n, hv0, hXE⟩ := HFIN.out
      obtain rfl : v = .bit n := by simpa using hv0
      cases hsv with
      | bit _ =>
        have HXE := hid hXE
        obtain ⟨rf, rbt, rfl2⟩ := rr
        have HFB := hid (fb_put (w0 := w0) (k := n) (p := p) t3 HRA.out c0)
        clear hXE hv0 hh hown hg hra hvs hev hkw hew hfin hvl hrow hul HFIN
        have as1 := sv_bit_fun (.int .i64 (n : Int))
        have as2 := sv_bit_pair (.int .i64 (n : Int))
        have as3 := sv_bit_bit (.int .i64 (n : Int))
        go_wp2_with (go_at_call 34; refine HFB.out.mono ?_; rintro e w2 hp; obtain ⟨hg1, hr1, u1, rfl, hu1⟩ := hp; have HG1 := hid hg1; have HR1 := hid hr1; have HU1 := hid hu1; clear hg1 hr1 hu1)
        rw [← HQ.out, HXE.out]
        exact ⟨grown_trans HG.out HG1.out, HR1.out, _, rfl, HU1.out⟩
end Go.Proofs.YtmjhfekcbagibaaGreatDoor
