/- Merged: ZG65, ZGSFaultX. -/
import Derived.Test.YtfogjomebcponaaGreatDoorZG60
import Derived.Test.YtfogjomebcponaaGreatDoorZG63
import Derived.Test.YtfogjomebcponaaGreatDoorZGSClosedS
import Derived.Test.YtfogjomebcponaaGreatDoorZG64
namespace Go.Proofs.YtfogjomebcponaaGreatDoor
open Go.RowKit
set_option maxRecDepth 100000
set_option maxHeartbeats 2000000
theorem sv_made (W : World) (g : Nat) : SV W (some ⟨g, 0, none⟩) 0 0 [] := ⟨rfl, fun h => (by cases h), fun i s h => (by simp at h)⟩
theorem txtF_fault {s : ByteArray} {t : Tree} {m : Tm} (hp : parse s = some t) (ht : t.tm [] = some m) : txtF (t.flt []) = fauTxt (m.flt []) ∧ (txtF (t.flt [])).toList.isEmpty = !(m.flt []).isSome := by
 have hrel := tm_flt t [] m [] ht
 have hwk := (parse_wk hp).1
 cases hf : m.flt [] with
 | none =>
  have hty := flt_none m [] hf
  cases htf : t.flt [] with
  | none => exact ⟨rfl, by rw [txtF, show ByteArray.empty.toList = [] by rw [Go.ByteArray.toList_eq]; rfl]; rfl⟩
  | some tr =>
   unfold FltRel at hrel; rw [htf] at hrel
   rw [hrel.1] at hty; cases hty
 | some f =>
  obtain ⟨tr, ar, h1, h2⟩ := hrel.fault hf
  rw [h1]
  have h3 := flt_wk t [] tr h1 hwk
  refine ⟨?_, ?_⟩
  ·show tr.txt = ⟨f.write.toArray⟩
   rw [tm_write tr ar f h2]; rfl
  ·show tr.txt.toList.isEmpty = _
   have := wk_ne h3.1
   cases hx : tr.txt.toList with
   | nil => exact absurd hx this
   | cons => rfl
theorem flt_atom (w0 : World) (S : Nat → Prop) (a : ByteArray) (hne : a.size ≠ 0) (hm : a.size ≤ 12000) (htt : TIn w0 S (.atom a) ⟨a, none, 0, 0⟩) : FltAsk w0 (.atom a) ⟨a, none, 0, 0⟩ := by
 intro env ns ts np tp nn nc tc w hk henv hns hts hsn hst hbn
 have hself := typ_atom w0 a hne (by omega)
 obtain ⟨W0, hW0⟩ : ∃ W0, W0 = w.alloc (.cells #[.string a, .slice none 0 0] 43) := ⟨_, rfl⟩
 have hw := kep hk
 have k0 : Kept w W0 := by rw [hW0]; exact (Kept.refl w).alloc (Nat.le_refl _) _
 have hk0 : Kept w0 W0 := hk.trans k0 hw
 have HBW := hid (show Below w.heap.size w W0 by rw [hW0]; exact (Below.refl _ _).alloc (Nat.le_refl _) _)
 have hbx := hea w (.cells #[.string a, .slice none 0 0] 43) w.heap.size rfl
 rw [← hW0] at hbx
 have KC := hid (fun W (hb : Below W0.heap.size W0 W) => cel (blo hbx hb (by have := HBW.out.size; have := lt_of_block hbx; omega)))
 have kc0 := KC.out W0 (Below.refl _ _)
 have HSE := hid (hself env ns ts np tp nn nc tc W0 hk0 henv hns hts (hsn.kept k0) (hst.kept k0) hbn)
 have HTX := hid (fun W (hb : Below W0.heap.size W0 W) => l1Text_any htt (by rw [Tree.write]; rw [show a.data.toList.length = a.size from rfl]; omega) (by rw [Tree.wt]; omega) W (hk0.trans (Kept.of_below hb (Nat.le_refl _)) (kep hk0)) (Nat.le_trans (kep hk0) hb.size))
 have hfl : (Tree.atom a).flt env = if (Tree.typ env (.atom a)).isSome = true then none else some (.atom a) := by rw [Tree.flt]
 rw [hfl]
 have HW0 := hid hW0
 obtain ⟨TT, hTT⟩ : ∃ TT, Tree.typ env (.atom a) = TT := ⟨_, rfl⟩
 rw [hTT] at HSE ⊢
 have qe := txtO_e8 TT
 clear hk henv hns hts hsn hst hbn hself k0 hk0 hbx hfl hTT hW0
 cases TT with
 | some T0 =>
  obtain ⟨r0, hr0⟩ : ∃ r0, txtO (some T0) = r0 := ⟨_, rfl⟩
  rw [hr0] at HSE qe
  have qe1 : r0.toList.isEmpty = false := qe
  clear qe hr0
  rw [if_pos (show (some T0).isSome = true from rfl)]
  go_enter Tryz.func34, Tryz.ntmps34
  go_wp2_with fail
  rw [← HW0.out]
  go_wp2_with (go_at_call 27; refine HSE.out.mono ?_; rintro e w1 ⟨rfl, hb1⟩)
  go_ret
  exact ⟨rfl, HBW.out.trans (hb1.mono HBW.out.size)⟩
 | none =>
  clear qe
  rw [if_neg (by simp)]
  have HSE2 := hid (show Calls Tryz.prog 27 #[.agg #[.string a, .slice none 0 0], .slice np nn nc, .slice tp nn tc] W0 fun e w' => e = .returned (.string ByteArray.empty) ∧ Below W0.heap.size W0 w' from HSE.out)
  clear HSE
  go_enter Tryz.func34, Tryz.ntmps34
  go_wp2_with fail
  rw [← HW0.out]
  go_wp2_with (go_at_call 27; refine HSE2.out.mono ?_; rintro e w1 ⟨rfl, hb1⟩; have kc1 := KC.out w1 hb1)
  refine wp_loop_rounds 1 ?_
  rw [rounds_succ]
  go_wp2_with (go_at_call 71; refine (HTX.out _ hb1).mono ?_; rintro e w2 ⟨rfl, hb2⟩)
  go_ret
  exact ⟨rfl, HBW.out.trans ((hb1.trans (hb2.mono hb1.size)).mono HBW.out.size)⟩
theorem l3Fault_any {w0 : World} {S : Nat → Prop} {t : Tree} {h : Hd} (ht : TIn w0 S t h) : t.wt ≤ 12000 → t.write.length ≤ 12000 → t.ok → t.wk → t.srt ≠ none → FltAsk w0 t h := by
 induction ht with
 | atom a hne hm =>
  intro _ hwl _ _ _
  exact flt_atom w0 S a hne (by rw [Tree.write] at hwl; exact hwl) (.atom a hne hm)
 | node ps b cap A hp hl hc hS hA hB hps ih =>
  intro hwt hwl hok hwk hwf
  have hself := l3Type_any (.node ps b cap A hp hl hc hS hA hB hps) hwt hok hwf
  have htx := fun W (hk : Kept w0 W) => l1Text_any (.node ps b cap A hp hl hc hS hA hB hps) hwl (by omega) W hk (kep hk)
  obtain ⟨q, qs, rfl⟩ : ∃ q qs, ps = q :: qs := by cases ps with | nil => simp at hp | cons q qs => exact ⟨q, qs, rfl⟩
  rw [Tree.wt] at hwt
  rw [Tree.ok] at hok
  rw [Tree.wk] at hwk
  simp only [List.length_cons] at hl hA hB
  have hpw : ∀ (i : Nat) (p : Tree), (q :: qs)[i]? = some p → p.write.length ≤ 12000 := fun i p hp => by
   have := join_part (q :: qs) i p hp
   rw [wre] at hwl
   simp at hwl; omega
  exact flt_node (S := S) (n := qs.length) rfl rfl (by rw [Tree.wts] at hwt; omega) hA hB hps hwf hself htx
   (fun i p hp hw => l3Type_any (hps i p hp) (by have := wtp (q :: qs) i p hp; omega) (okp _ hok i p hp) hw)
   (fun i p hp env f hf => wk_ne (flt_wk p env f hf (wks_mem hwk.2 p (List.mem_of_getElem? hp))).1)
   (fun i p hp hw => ih i p hp (by have := wtp (q :: qs) i p hp; omega) (hpw i p hp) (okp _ hok i p hp) (wks_mem hwk.2 p (List.mem_of_getElem? hp)) hw)
theorem specTermFault_any (s : ByteArray) (hs : s.size ≤ 400000000) (w : World) : Calls Tryz.prog 15 #[.string s] w (FauPost (fau s) w) := by
 have HC := hid (fun W => l2Term_any s hs W)
 cases ht : ter s with
 | none =>
  have hr := termTree_none ht
  have HO := hid (show fau s = none by unfold fau; rw [hr])
  have HT := hid ht
  rw [HO.out]
  clear ht hr
  go_enter Tryz.func15, Tryz.ntmps15
  go_wp2_with (go_at_call 25; refine (HC.out _).mono ?_; rintro e w1 hp; rw [HT.out] at hp; obtain ⟨pa, pp, pl, pc, rfl, hpl, hb1⟩ := hp.none; clear hp)
  go_ret2
  exact ⟨rfl, hb1.alloc hb1.size _⟩
 | some t =>
  obtain ⟨hpt, hso, hsz, mm, hmm, htm⟩ := termTree_some ht
  have HT := hid ht
  have hwt := pas hpt
  have hok := parse_ok hpt
  have hwk := parse_wk hpt
  have hfr := tm_free t [] mm htm
  have HCL := hid (fun (w0 : World) (S : Nat → Prop) (h : Hd) (htt : TIn w0 S t h) (W : World) (hk : Kept w0 W) => l2Closed_any htt hwt hok hso W hk (kep hk))
  by_cases hf : (t.free []).length = 0
  ·rw [decide_eq_true hf] at HCL
   have hO : fau s = mm.flt [] := by unfold fau; rw [hmm]; simp only; rw [hfr, if_pos hf]
   obtain ⟨hx1, hx2⟩ := txtF_fault hpt htm
   rw [hO]
   unfold FauPost
   rw [← hx1]
   obtain ⟨d, hd⟩ : ∃ d, (mm.flt []).isSome = d := ⟨_, rfl⟩
   rw [hd] at hx2 ⊢
   have HTY := hid (fun (w0 : World) (S : Nat → Prop) (hh : Hd) (htt : TIn w0 S t hh) (W : World) (hk : Kept w0 W) (g1 g2 : Nat) => (show Calls Tryz.prog 34 #[.agg #[.string hh.a, .slice hh.p hh.l hh.c], .slice (some ⟨g1, 0, none⟩) 0 0, .slice (some ⟨g2, 0, none⟩) 0 0] W fun e w' => e = .returned (.string (txtF (t.flt []))) ∧ Below W.heap.size W w' from
    l3Fault_any htt hwt hwk.2.2 hok hwk.1 hso [] [] [] _ _ 0 0 0 W hk (fun x hx => by cases hx) rfl rfl (sv_made W g1) (sv_made W g2) (by omega)))
   obtain ⟨r, hr⟩ : ∃ r, txtF (t.flt []) = r := ⟨_, rfl⟩
   rw [hr] at HTY hx2 ⊢
   have qe2 : (!r.toList.isEmpty) = d := by rw [hx2]; simp
   clear ht hpt hso hmm htm hwt hok hwk hf hx1 hx2 hO hd hr hfr
   go_enter Tryz.func15, Tryz.ntmps15
   go_wp2_with (first
    | (go_at_call 34; have _ := hb2; refine (HTR.out _ (((k12.alloc (kep k12) _)).alloc (by simp; have := kep k12; omega) _) _ _).mono ?_; rintro e w3 ⟨rfl, hb3⟩)
    | (go_at_call 33; have hb1a := hb1.alloc hb1.size (.cells #[.string pa, .slice pp pl pc] 43); refine (HCR.out _ ((Kept.refl _).alloc (Nat.le_refl _) _)).mono ?_; rintro e w2 ⟨rfl, hb2⟩; have hbx := blo (hea w1 (.cells #[.string pa, .slice pp pl pc] 43) _ rfl) hb2 (by simp); have kc := cel hbx; have hb12 := hb1a.trans (hb2.mono hb1a.size); have k12 : Kept w1 w2 := ((Kept.refl w1).alloc (Nat.le_refl _) _).below hb2 (by simp))
    | (go_at_call 25; refine (HC.out _).mono ?_; rintro e w1 hp; rw [HT.out] at hp; obtain ⟨pa, pp, pl, pc, rfl, hb1, htr⟩ := hp.some; have HTR := hid (fun W => HTY.out _ _ _ htr W); have HCR := hid (fun W => HCL.out _ _ _ htr W); clear hp htr))
   go_ret2
   exact ⟨by simp, ((hb12.alloc hb12.size _).alloc (by simp; have := hb12.size; omega) _).trans (hb3.mono (by simp; have := hb12.size; omega))⟩
  ·rw [decide_eq_false hf] at HCL
   have hO : fau s = none := by unfold fau; rw [hmm]; simp only; rw [hfr, if_neg hf]
   rw [hO]
   clear ht hpt hso hmm htm hwt hok hwk hf hO hfr
   go_enter Tryz.func15, Tryz.ntmps15
   go_wp2_with (first
    | (go_at_call 33; have hb1a := hb1.alloc hb1.size (.cells #[.string pa, .slice pp pl pc] 43); refine (HCR.out _ ((Kept.refl _).alloc (Nat.le_refl _) _)).mono ?_; rintro e w2 ⟨rfl, hb2⟩; have hb12 := hb1a.trans (hb2.mono hb1a.size))
    | (go_at_call 25; refine (HC.out _).mono ?_; rintro e w1 hp; rw [HT.out] at hp; obtain ⟨pa, pp, pl, pc, rfl, hb1, htr⟩ := hp.some; have HCR := hid (fun W => HCL.out _ _ _ htr W); clear hp htr))
   go_ret2
   exact ⟨rfl, hb12⟩
end Go.Proofs.YtfogjomebcponaaGreatDoor
