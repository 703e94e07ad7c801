/- Merged: KidT. -/
import Derived.Deep.AppendLies
import Derived.Deep.RegionLaw
import Derived.Test.YtfogjomebcponaaGreatDoorZG57
namespace Go.Proofs.YtfogjomebcponaaGreatDoor
open Go.RowKit
set_option maxRecDepth 100000
set_option maxHeartbeats 8000000
theorem kep {w W : World} (h : Kept w W) : w.heap.size ≤ W.heap.size := by
 rcases Nat.eq_zero_or_pos w.heap.size with h0 | h0
 ·omega
 ·have h1 := h (w.heap.size - 1) (by omega)
  have h2 : w.heap[w.heap.size - 1]? ≠ none := by rw [Array.getElem?_eq_getElem (by omega)]; simp
  rw [← h1] at h2
  rcases Nat.lt_or_ge (w.heap.size - 1) W.heap.size with h3 | h3
  ·omega
  ·exact absurd (Array.getElem?_eq_none h3) h2
theorem ktO_good {h : List UInt8} {ty : Option Ty} {xs : List ByteArray} {env : List (ByteArray × Ty)} {last : Bool} {first : Option Ty} {p : Tree} (he : EnvOk env) (hf : ∀ t, first = some t → t.good) (hty : ∀ t, h = [108, 97, 109] → ty = some t → t.good ∧ t.isVal = true) (hs : p.srt ≠ none) :
    ∀ t, ktO h ty xs env last first p = some t → t.good := by
 intro t ht
 unfold ktO at ht
 obtain ⟨v, hv⟩ : ∃ v, p.srt = some v := Option.ne_none_iff_exists'.1 hs
 split at ht
 ·cases ht
 ·rename_i bts hb
  refine (typ_ok p _ v t (envWith_ok he _ _ ?_) hv ht).1
  split at hb
  ·exact bndT_ok hb hf hty
  ·simp at hb; subst hb; intro t ht; simp at ht
def TypAsk (w0 : World) (t : Tree) (h : Hd) : Prop := ∀ (env : List (ByteArray × Ty)) (ns ts : List ByteArray) (np tp : Option Addr) (nn nc tc : Nat) (w : World), Kept w0 w → EnvOk env →
 ns = env.reverse.map Prod.fst → ts = env.reverse.map (fun x => x.2.text) → SV w np nn nc ns → SV w tp nn tc ts → nn + 4 * t.wt ≤ 100000 →
 Calls Tryz.prog 27 #[.agg #[.string h.a, .slice h.p h.l h.c], .slice np nn nc, .slice tp nn tc] w fun e w' => e = .returned (.string (txtO (t.typ env))) ∧ Below w.heap.size w w'
theorem own_first {w : World} {base : Nat} {e : TypeId} {q : Option Addr} {m c : Nat} {x : Value} {xs : List Value} (h : w.ownsRow base e 1 (.slice q m c) m (x :: xs)) : ∃ g, q = some ⟨g, 0, none⟩ ∧ ∀ W, Below w.heap.size w W → W.cell? ⟨g, 0, none⟩ = some x := by
 have hm : 0 < m := by have := h.1; simp at this; omega
 obtain ⟨g, rfl, _, _, hg, hc⟩ := own_slice h hm
 refine ⟨g, rfl, fun W hW => ?_⟩
 exact (hW.cell (p := ⟨g, 0, none⟩) hg).trans (hc 0 x rfl)
theorem l3Kids_go {w0 : World} {S : Nat → Prop} {q : Tree} {qs : List Tree} {b cap n N : Nat} {A : Nat → Hd} (hn : qs.length = n) (hN : N = n + 1) (hwt : Tree.wts qs ≤ 12000)
    (hA : ∀ i, i < n + 1 → w0.cell? ⟨b, i * 2, none⟩ = some (.string (A i).a)) (hB : ∀ i, i < n + 1 → w0.cell? ⟨b, i * 2 + 1, none⟩ = some (.slice (A i).p (A i).l (A i).c))
    (hps : ∀ i p, (q :: qs)[i]? = some p → TIn w0 S p (A i)) (hwf : Tree.srt (.node (q :: qs)) ≠ none)
    (ih : ∀ i p, (q :: qs)[i]? = some p → p.srt ≠ none → TypAsk w0 p (A i)) (env : List (ByteArray × Ty)) (ns ts : List ByteArray) (np tp : Option Addr) (nn nc tc : Nat) (w : World) (hk : Kept w0 w) (henv : EnvOk env)
    (hns : ns = env.reverse.map Prod.fst) (hts : ts = env.reverse.map (fun x => x.2.text)) (hsn : SV w np nn nc ns) (hst : SV w tp nn tc ts) (hbn : nn + 4 + 4 * Tree.wts qs ≤ 100000) :
    Calls Tryz.prog 60 #[.agg #[.string ByteArray.empty, .slice (some ⟨b, 0, none⟩) N cap], .slice np nn nc, .slice tp nn tc] w
     (OwnS ((Tree.kts q.text.toList (tyIn (shape q.text.toList) qs) (xsOf (shape q.text.toList) qs) env [] (shape q.text.toList) qs).map txtO) w) := by
 obtain ⟨h0, hsl, hft⟩ := wf_node hwf
 have h4 := sha q.text.toList
 have hw := kep hk
 obtain ⟨ht0, htk⟩ := part_texts hn hA hps
 have hnl : ns.length = nn := hsn.1
 have HTL := hid hst.1
 have hlamf := fun W hkW => (lam_part hn hN hwt hA hB hps hsl hft W hkW (kep hkW)).1
 have hgt := fun t (h : tyIn (shape q.text.toList) qs = some t) => fits_tyIn _ _ hft t h
 have HFT := hid (fun i c p hc hp hk => fit1_wf (fits_get (shape q.text.toList) qs i c p hft hc hp) hk)
 have HI := hid (fun i c W h0 hc => l2Inner_any q b N cap i ByteArray.empty c W h0 (by omega) hc)
 have HBN := hid (fun i W hi h0 ht => l2Binds_any q qs b N n i cap ByteArray.empty W hN hn hi hsl h0 ht)
 have HBC := hid (fun env last first p => bnd_cases q.text.toList (tyIn (shape q.text.toList) qs) qs hsl env last first p)
 have HTY := hid (fun t (h : q.text.toList = [108, 97, 109]) (h2 : tyIn (shape q.text.toList) qs = some t) => (show t.good ∧ t.isVal = true from ⟨(hgt t h2).1, by have := (hgt t h2).2; rw [h] at this; exact (Option.some.inj this).symm⟩))
 have HBO := hid (fun (first : Option Ty) (hf : ∀ t, first = some t → t.good) W (hkW : Kept w0 W) => l3Bound_any q b N cap ByteArray.empty (tyIn (shape q.text.toList) qs) first hf W (hkW.cell ht0) (by omega) (by omega) (fun h => by
  obtain ⟨x, hx, h2, v1, v2, y1, y2, hL⟩ := hlamf W hkW h
  rw [hx]
  exact ⟨h2, v1, v2, y1, y2, fun W2 hk2 => hL W2 hk2 (kep hk2)⟩))
 have hxl : (xsOf (shape q.text.toList) qs).length ≤ 4 := by have := xsOf_length (shape q.text.toList) qs; omega
 obtain ⟨h, hh⟩ : ∃ h, q.text.toList = h := ⟨_, rfl⟩
 rw [hh] at HFT HI HBN HBC HTY HBO hxl hsl h4 ⊢
 obtain ⟨cs, hcs⟩ : ∃ cs, shape h = cs := ⟨_, rfl⟩
 rw [hcs] at HFT HI HBN HBC HTY HBO hxl hsl h4 ⊢
 obtain ⟨xs, hxs⟩ : ∃ xs, xsOf cs qs = xs := ⟨_, rfl⟩
 rw [hxs] at HBN HBC hxl ⊢
 obtain ⟨ty, hty⟩ : ∃ ty, tyIn cs qs = ty := ⟨_, rfl⟩
 rw [hty] at HBC HTY HBO ⊢
 obtain ⟨R, hR⟩ : ∃ R, Tree.kts h ty xs env [] cs qs = R := ⟨_, rfl⟩
 rw [hR]
 have HR := hid hR
 have hn4 : n ≤ 4 := by omega
 have hN1 : n < N := by omega
 have hN2 : N ≤ n + 1 := by omega
 have hN5 : N ≤ 5 := by omega
 obtain ⟨W0, hW0⟩ : ∃ W0, W0 = w.alloc (.cells #[.string ByteArray.empty, .slice (some ⟨b, 0, none⟩) N cap] 43) := ⟨_, rfl⟩
 have hW0s : W0.heap.size = w.heap.size + 1 := by rw [hW0]; simp
 have hbx0 := hea w (.cells #[.string ByteArray.empty, .slice (some ⟨b, 0, none⟩) N cap] 43) w.heap.size rfl
 rw [← hW0] at hbx0
 have hkW : Kept w0 W0 := by rw [hW0]; exact hk.alloc hw _
 have HSN0 := hid (show SV W0 np nn nc ns by rw [hW0]; exact hsn.kept ((Kept.refl w).alloc (Nat.le_refl _) _))
 have HST0 := hid (show SV W0 tp nn tc ts by rw [hW0]; exact hst.kept ((Kept.refl w).alloc (Nat.le_refl _) _))
 have HBW := hid (show Below w.heap.size w W0 by rw [hW0]; exact (Below.refl _ _).alloc (Nat.le_refl _) _)
 have HO := hid (own_empty W0 (w.heap.size + 1) (by omega))
 have HBX := hid hbx0
 have HSL := hid (hsl.trans hn)
 have HNN := hid hn
 have HT0 := hid ht0
 have HTK := hid htk
 have HA := hid hA
 have HB := hid hB
 have HIH := hid ih
 have HK := hid hkW
 have HW0 := hid hW0
 have HWS := hid hW0s
 have HENV := hid henv
 have HNS := hid hns
 have HTS := hid hts
 have HNL := hid hnl
 have hws2 : w.heap.size < W0.heap.size := by omega
 obtain ⟨i0, hi0, hz0, hz1, hz2⟩ := info_parts Tryz.infoStr
 clear hn hN hA hB hps hwf ih hk h0 hsl hft h4 ht0 htk hcs hxs hty hR hsn hst hkW hW0 hbx0 hlamf hgt henv hns hts hnl hh hW0s
 go_enter Tryz.func60, Tryz.ntmps60
 go_wp2_with fail
 rw [← HW0.out]
 go_loopw [7, 8] (fun v u wr => ∃ (i m c : Nat) (q1 : Option Addr) (acc : List (Option Ty)), i ≤ n ∧ m ≤ i ∧ u = .int .i64 ((i : Int) + 1) ∧ v = .slice q1 m c ∧ wr.ownsRow (w.heap.size + 1) 9 1 (.slice q1 m c) m (acc.map fun o => Value.string (txtO o)) ∧ Below (w.heap.size + 1) W0 wr ∧
     Hid (Tree.kts h ty xs env acc (cs.drop i) (qs.drop i) = R ∧ acc.length = m ∧ ∀ o ∈ acc, ∀ t, o = some t → t.good)) (fun _ u _ => N - (intOf u).toNat)
 case atStart =>
  exact ⟨0, 0, 0, _, [], Nat.zero_le _, Nat.le_refl _, rfl, by simp; rfl, by simpa [HWS.out] using HO.out, (Below.refl _ _).alloc (by omega) _, hid ⟨by simpa using HR.out, rfl, fun o ho => by cases ho⟩⟩
 case round =>
  obtain ⟨i, m, c, q1, acc, hi, hmi, rfl, rfl, hown, hbel, hL⟩ := hrel
  have hz := hbel.size
  have hbxr : wr.heap[w.heap.size]? = some (.cells #[.string ByteArray.empty, .slice (some ⟨b, 0, none⟩) N cap] 43 (0, 0)) := blo HBX.out hbel (by omega)
  have kc2 := cel hbxr
  have kW : Kept W0 wr := fun k hk => by
   have := HWS.out
   exact hbel.block k (by omega)
  have kw : Kept w0 wr := HK.out.trans kW (kep HK.out)
  have HSNR := hid (HSN0.out.kept kW)
  have HSTR := hid (HST0.out.kept kW)
  have HOWN := hid hown
  have HBEL := hid hbel
  have KW := hid kw
  clear hown hbel hbxr kW
  by_cases hlt : i < n
  ·obtain ⟨p, hp⟩ : ∃ p, qs[i]? = some p := ⟨_, List.getElem?_eq_getElem (by rw [HNN.out]; exact hlt)⟩
   obtain ⟨d, hcc⟩ : ∃ d, cs[i]? = some d := ⟨_, List.getElem?_eq_getElem (by rw [HSL.out]; exact hlt)⟩
   have d2 : (i : Int) + 1 < (N : Int) := by omega
   have d2' : i + 1 < N := by omega
   have d3 : (0 : Int) ≤ (i : Int) + 1 := by omega
   have hst := kts_step HSL.out hcc hp h ty xs env acc
   have CI := hid (fun W (hk : Kept wr W) => HI.out i d W (hk.cell (kw.cell HT0.out)) hcc)
   have CB := hid (fun W (hk : Kept wr W) => HBN.out i W hlt (hk.cell (kw.cell HT0.out)) (fun k p hp => hk.cell (kw.cell (HTK.out k p hp))))
   have CA := hid (fun W (hk : Kept wr W) => hk.cell (kw.cell (HA.out (i + 1) (by omega))))
   have CB2 := hid (fun W (hk : Kept wr W) => hk.cell (kw.cell (HB.out (i + 1) (by omega))))
   have kc3 := hid (fun W (hk : Kept wr W) => (show W.cell? ⟨w.heap.size, 0, none⟩ = some (.string ByteArray.empty) ∧ W.cell? ⟨w.heap.size, 1, none⟩ = some (.slice (some ⟨b, 0, none⟩) N cap) from ⟨hk.cell kc2.1, hk.cell kc2.2.1⟩))
   cases hK : d.isK with
   | false =>
    rw [hK] at CI
    have HL2 := hid (show Tree.kts h ty xs env acc (cs.drop (i + 1)) (qs.drop (i + 1)) = R ∧ acc.length = m ∧ ∀ o ∈ acc, ∀ t, o = some t → t.good by
     have := hL.out; rw [hst, hK] at this; simpa using this)
    clear hst hL hp hcc kw hK
    go_wp2_with (go_at_call 68; refine (CI.out _ (Kept.refl _)).mono ?_; rintro e w1 ⟨rfl, hb1⟩)
    go_roundw
    case rel => exact ⟨i + 1, m, c, q1, acc, by omega, by omega, by go_num, rfl, ows HOWN.out hb1, HBEL.out.trans (hb1.mono (by omega)), HL2⟩
    case measure => simp [intOf]; omega
   | true =>
    rw [hK] at CI
    have hwp := HFT.out i d p hcc hp hK
    have hpw : p.wt ≤ Tree.wts qs := wtp qs i p hp
    obtain ⟨fo, hfo⟩ : ∃ fo, acc[0]?.join = fo := ⟨_, rfl⟩
    rw [hfo] at hst
    have hfg : ∀ t, fo = some t → t.good := by
     intro t ht
     rw [← hfo] at ht
     exact hL.out.2.2 (some t) (List.mem_of_getElem? (join_some ht)) t rfl
    obtain ⟨KT, hKT⟩ : ∃ KT, ktO h ty xs env (decide (i + 1 = n)) fo p = KT := ⟨_, rfl⟩
    have hKg : ∀ t, KT = some t → t.good := by rw [← hKT]; exact ktO_good HENV.out hfg HTY.out hwp
    have HBCI := hid (HBC.out env (decide (i + 1 = n)) fo p)
    rw [hKT] at hst HBCI
    have HL2 := hid (show Tree.kts h ty xs env (acc ++ [KT]) (cs.drop (i + 1)) (qs.drop (i + 1)) = R ∧ (acc ++ [KT]).length = m + 1 ∧ ∀ o ∈ acc ++ [KT], ∀ t, o = some t → t.good by
     have hL := hL.out
     rw [hst, if_pos hK] at hL
     refine ⟨hL.1, by simp [hL.2.1], fun o ho => ?_⟩
     rcases List.mem_append.1 ho with ho | ho
     ·exact hL.2.2 o ho
     ·simp at ho; subst ho; exact hKg)
    have HAL := hid hL.out.2.1
    have CO := hid (fun W (hk : Kept wr W) => HBO.out fo hfg W (kw.trans hk (kep kw)))
    have HCT := hid (fun W (hkk : Kept wr W) => HIH.out (i + 1) p (by simpa using hp) hwp)
    obtain ⟨BS, hBS⟩ : ∃ BS, bndS h ty fo = BS := ⟨_, rfl⟩
    rw [hBS] at CO
    obtain ⟨B, hBB⟩ : ∃ B, bnd (decide (i + 1 = n)) xs = B := ⟨_, rfl⟩
    rw [hBB] at CB HBCI
    have HWT := hid (fun (l1 l2 : List ByteArray) (p1 p2 : Option Addr) n1 n2 c1 c2 W hv1 hv2 hn1 hn2 => l2With_any l1 l2 p1 p2 n1 n2 c1 c2 W hv1 hv2 hn1 hn2)
    have hpb : nn + 4 + 4 * p.wt ≤ 100000 := by omega
    have HFO := hid hfo
    have hBl : B.length ≤ 4 := by rw [← hBB]; unfold bnd; split; exact hxl; simp
    have ca := CA.out wr (Kept.refl _)
    have cb := CB2.out wr (Kept.refl _)
    have HBSE := hid hBS
    have HFG := hid hfg
    clear hst hL hp hcc kw hK hKT hBS hBB hpw hfo hfg
    have KQ2 : (acc = [] ∧ m = 0 ∧ fo = none) ∨ (∃ a0 ar g, acc = a0 :: ar ∧ 0 < m ∧ fo = a0 ∧ q1 = some ⟨g, 0, none⟩ ∧ ∀ W, Below wr.heap.size wr W → W.cell? ⟨g, 0, none⟩ = some (.string (txtO fo))) := by
     rcases hac : acc with _ | ⟨a0, ar⟩
     ·left
      refine ⟨rfl, ?_, ?_⟩
      ·rw [← HAL.out, hac]; rfl
      ·rw [← HFO.out, hac]; rfl
     ·right
      have hfoe : fo = a0 := by rw [← HFO.out, hac]; rfl
      have hO := HOWN.out
      rw [hac, List.map_cons] at hO
      obtain ⟨g, rfl, hg⟩ := own_first hO
      exact ⟨a0, ar, g, rfl, by rw [← HAL.out, hac]; simp, hfoe, rfl, by rw [hfoe]; exact hg⟩
    have CO2 := hid (fun F0 (hF : F0 = txtO fo) W (hk : Kept wr W) => (show Calls Tryz.prog 70 #[.agg #[.string ByteArray.empty, .slice (some ⟨b, 0, none⟩) N cap], .string F0] W (OwnS BS W) from by rw [hF]; exact CO.out W hk))
    clear CO
    rcases KQ2 with ⟨_, rfl, hfn⟩ | ⟨_, _, g0, _, hm0, _, rfl, hgc⟩
    ·skip
     have KQ := hid (fun W (_ : Below wr.heap.size wr W) => True.intro)
     have HF0 := hid (show ByteArray.empty = txtO fo by rw [hfn]; rfl)
     clear hfn
     rcases HBCI.out with ⟨hB0, hkt⟩ | ⟨x0, xr, hB0, hbt, hkt⟩ | ⟨x0, xr, bts, hB0, hbt, hbl, hkt⟩
     ·skip
      have CB2x := hid (fun W (hk : Kept wr W) => (CB.out W hk).mono fun e w' (h : OwnS B W e w') => (show ∃ q2 c2, e = .returned (.slice q2 0 c2) ∧ SV w' q2 0 c2 [] ∧ Below W.heap.size W w' from by
       rw [hB0] at h; obtain ⟨q2, c2, he, hv, _, hb⟩ := h.full; exact ⟨q2, c2, he, hv, hb⟩))
      obtain ⟨kS, hkS⟩ : ∃ kS, BS.length = kS := ⟨_, rfl⟩
      have CO2 := hid (fun F0 hF W (hk : Kept wr W) => (CO2.out F0 hF W hk).mono fun e w' (h : OwnS BS W e w') => (show ∃ q3 c3, e = .returned (.slice q3 kS c3) ∧ SV w' q3 kS c3 BS ∧ Below W.heap.size W w' from by
       obtain ⟨q3, c3, he, hv, _, hb⟩ := h.full; rw [hkS] at he hv; exact ⟨q3, c3, he, hv, hb⟩))
      have hkS2 : kS ≤ 100 := by rw [← hkS, ← HBSE.out]; unfold bndS; repeat' (first | split | simp)
      have HKT := hid hkt
      have HTA := hid (fun (W : World) (np2 tp2 : Option Addr) (nc2 tc2 : Nat) (hkk : Kept wr W) (hv1 : SV W np2 (nn + 0) nc2 (ns ++ [])) (hv2 : SV W tp2 (nn + 0) tc2 (ts ++ [])) => (show Calls Tryz.prog 27 #[.agg #[.string (A (i + 1)).a, .slice (A (i + 1)).p (A (i + 1)).l (A (i + 1)).c], .slice np2 (nn + 0) nc2, .slice tp2 (nn + 0) tc2] W fun e w' => e = .returned (.string (txtO KT)) ∧ Below W.heap.size W w' from by
       rw [hkt]
       exact HCT.out W hkk env (ns ++ []) (ts ++ []) np2 tp2 (nn + 0) nc2 tc2 W (KW.out.trans hkk (kep KW.out)) HENV.out (by rw [List.append_nil]; exact HNS.out) (by rw [List.append_nil]; exact HTS.out) hv1 hv2 (by omega)))
      obtain ⟨r, hr⟩ : ∃ r, txtO KT = r := ⟨_, rfl⟩
      rw [hr] at HTA
      have HRR := hid hr
      clear hB0 hkt hkS hr HBCI CB
      go_wp2_with (first
       | (go_at_call 70; have _ := S2; refine (CO2.out _ HF0.out _ K2.out).mono ?_; rintro e w3 ⟨q3, c3, rfl, hsv3, hb3⟩; have K3 := hid (K2.out.below hb3 S2.out); have S3 := hid (Nat.le_trans S2.out hb3.size); have HB3 := hid (HB2.out.trans (hb3.mono S2.out)); have k3 := kc3.out _ K3.out; have ca3 := CA.out _ K3.out; have cb3 := CB2.out _ K3.out; have V23 := hid (V2.out.kept (Kept.of_below hb3 (Nat.le_refl _))); have V3 := hid hsv3; clear hsv3 hb3)
       | (go_at_call 69; have _ := S1; refine (CB2x.out _ K1.out).mono ?_; rintro e w2 ⟨q2, c2, rfl, hsv2, hb2⟩; have K2 := hid (K1.out.below hb2 S1.out); have S2 := hid (Nat.le_trans S1.out hb2.size); have HB2 := hid (HB1.out.trans (hb2.mono S1.out)); have k2 := kc3.out _ K2.out; have V2 := hid hsv2; clear hsv2 hb2)
       | (go_at_call 68; refine (CI.out _ (Kept.refl _)).mono ?_; rintro e w1 ⟨rfl, hb1⟩; have K1 := hid (Kept.of_below hb1 (Nat.le_refl _)); have HB1 := hid hb1; have S1 := hid hb1.size; have k1 := kc3.out _ K1.out; have kq := KQ.out w1 hb1; clear hb1))
      have hb35 : Below w3.heap.size w3 (w3.alloc (.cells #[] 9)) := (Below.refl _ _).alloc (Nat.le_refl _) _
      have VS := hid (show SV (w3.alloc (.cells #[] 9)) (some ⟨w3.heap.size, 0, none⟩) 0 0 [] from ⟨rfl, fun h => (by cases h), fun i s h => (by simp at h)⟩)
      have hz3 := S3.out
      obtain ⟨w5, hw5⟩ : ∃ w5, w3.alloc (.cells #[] 9) = w5 := ⟨_, rfl⟩
      rw [hw5] at hb35 VS ⊢
      clear hw5
      have K5 := hid (K3.out.below hb35 S3.out)
      have S5 := hid (Nat.le_trans S3.out hb35.size)
      have HB5 := hid (HB3.out.trans (hb35.mono S3.out))
      have VB := hid (V23.out.kept (Kept.of_below hb35 (Nat.le_refl _)))
      generalize w3.heap.size = gs at VS ⊢
      clear hb35 K3 S3 HB3 V23 V3
      have k5 := kc3.out _ K5.out
      have ca5 := CA.out _ K5.out
      have cb5 := CB2.out _ K5.out
      have k6 := kc3.out w5.drew (K5.out.below ((Below.refl _ _).drew) S5.out)
      have HD5 := hid (HB5.out.trans (((Below.refl w5.heap.size w5).drew).mono S5.out))
      have VN := hid ((HSNR.out.kept (K5.out)).kept (Kept.of_below ((Below.refl w5.heap.size w5).drew) (Nat.le_refl _)))
      have VT := hid ((HSTR.out.kept (K5.out)).kept (Kept.of_below ((Below.refl w5.heap.size w5).drew) (Nat.le_refl _)))
      have VBD := hid (VB.out.kept (Kept.of_below ((Below.refl w5.heap.size w5).drew) (Nat.le_refl _)))
      have VSD := hid (VS.out.kept (Kept.of_below ((Below.refl w5.heap.size w5).drew) (Nat.le_refl _)))
      clear VB VS
      go_region_law (first
       | (go_simp; (go_at_call 27; have _ := HB7; refine (HTA.out _ _ _ _ _ K7.out VN7.out VT7.out).mono ?_; rintro e w8 ⟨rfl, hb8⟩; have K8 := hid (K7.out.below hb8 S7.out); have S8 := hid (Nat.le_trans S7.out hb8.size); have HB8 := hid (HB7.out.trans (hb8.mono S7.out)); have k8 := kc3.out _ K8.out; have ca8 := CA.out _ K8.out; have cb8 := CB2.out _ K8.out; clear hb8))
       | (go_simp; (go_at_call 72; have _ := HB6; refine (HWT.out _ _ _ _ _ _ _ _ _ VT6.out VS6.out (by omega) (by omega)).mono ?_; rintro e w7 hp7; obtain ⟨q7, c7, he7, hsv7, hlt7, hb7⟩ := hp7.full; rw [show (ts ++ ([] : List ByteArray)).length = nn + 0 by rw [List.length_append, HTL.out, List.length_nil]] at he7 hsv7; subst he7; have K7 := hid (K6.out.below hb7 S6.out); have S7 := hid (Nat.le_trans S6.out hb7.size); have HB7 := hid (HB6.out.trans (hb7.mono S6.out)); have k7 := kc3.out _ K7.out; have ca7 := CA.out _ K7.out; have cb7 := CB2.out _ K7.out; have VN7 := hid (VN6.out.kept (Kept.of_below hb7 (Nat.le_refl _))); have VT7 := hid hsv7; clear hb7 hsv7 hp7 hlt7))
       | (go_simp; (go_at_call 72; refine (HWT.out _ _ _ _ _ _ _ _ _ VN.out VBD.out (by omega) (by omega)).mono ?_; rintro e w6 hp6; obtain ⟨q6, c6, he6, hsv6, hlt6, hb6⟩ := hp6.full; rw [show (ns ++ ([] : List ByteArray)).length = nn + 0 by rw [List.length_append, HNL.out, List.length_nil]] at he6 hsv6; subst he6; have K6 := hid ((Kept.of_below HD5.out (Nat.le_refl _)).below hb6 HD5.out.size); have S6 := hid (Nat.le_trans HD5.out.size hb6.size); have HB6 := hid (HD5.out.trans (hb6.mono HD5.out.size)); have kk6 := kc3.out _ K6.out; have ca6 := CA.out _ K6.out; have cb6 := CB2.out _ K6.out; have VN6 := hid hsv6; have VT6 := hid (VT.out.kept (Kept.of_below hb6 (Nat.le_refl _))); have VS6 := hid (VSD.out.kept (Kept.of_below hb6 (Nat.le_refl _))); clear hb6 hsv6 hp6 hlt6))
       | (have _ := hid HB8; refine step_append_lies _ rfl (.tmp 50) (.tmp 63) 22 rfl (w.heap.size + 1) 9 i0 (.string ByteArray.empty) 1 16 Tryz.underlying22 hi0 hz0 hz1 hz2 rfl (by decide) _ _ _ (by simp [Act.eval]) ((ows HOWN.out HB8.out).alloc _) ⟨w8.heap.size, 0, none⟩ 1 1 [.string r] (by simp [Act.eval]) rfl (cen _ _ _ _ rfl) (by intro u hu; simp at hu; subst hu; rfl) (by decide) (by unfold maxLen; omega) (by omega) (by have := HB8.out.size; simp; omega) _ rfl ?_; intro g4 kc4 w9 hown4 hg4 hw4 hlt4; have HG := hid hg4; have HO4 := hid hown4; clear hg4 hown4 hw4))
      all_goals
       go_wp2_with fail
       go_roundw
       case rel =>
        have hz8 := HB8.out.size
        refine ⟨i + 1, _, kc4, some ⟨g4, 0, none⟩, acc ++ [KT], by omega, by omega, by go_num, rfl, by rw [List.map_append, List.map_cons, List.map_nil, HRR.out]; exact HO4.out, ?_, HL2⟩
        exact ((HBEL.out.trans (HB8.out.mono (by omega))).alloc (by omega) _).grown HG.out (by simp; omega) (fun k e => (HOWN.out.lt k e).1)
       case measure => simp [intOf]; omega
     ·skip
      obtain ⟨kB, hkB⟩ : ∃ kB, B.length = kB := ⟨_, rfl⟩
      have hkB0 : 0 < kB := by rw [← hkB, hB0]; simp
      have hkB4 : kB ≤ 4 := by omega
      have CB2x := hid (fun W (hk : Kept wr W) => (CB.out W hk).mono fun e w' (h : OwnS B W e w') => (show ∃ q2 c2, e = .returned (.slice q2 kB c2) ∧ SV w' q2 kB c2 B ∧ Below W.heap.size W w' from by
       obtain ⟨q2, c2, he, hv, _, hb⟩ := h.full; rw [hkB] at he hv; exact ⟨q2, c2, he, hv, hb⟩))
      obtain ⟨kS, hkS⟩ : ∃ kS, BS.length = kS := ⟨_, rfl⟩
      have CO2 := hid (fun F0 hF W (hk : Kept wr W) => (CO2.out F0 hF W hk).mono fun e w' (h : OwnS BS W e w') => (show ∃ q3 c3, e = .returned (.slice q3 kS c3) ∧ SV w' q3 kS c3 BS ∧ Below W.heap.size W w' from by
       obtain ⟨q3, c3, he, hv, _, hb⟩ := h.full; rw [hkS] at he hv; exact ⟨q3, c3, he, hv, hb⟩))
      have hkS2 : kS ≤ 100 := by rw [← hkS, ← HBSE.out]; unfold bndS; repeat' (first | split | simp)
      have HKT := hid hkt
      have hHas : hasB BS ByteArray.empty.toList = true := by rw [← HBSE.out, show ByteArray.empty.toList = [] by rw [Go.ByteArray.toList_eq]; rfl]; exact bndS_none hbt
      have CH := hid (fun (q3 : Option Addr) (c3 : Nat) W (hv : SV W q3 kS c3 BS) => lha ByteArray.empty BS q3 kS c3 W hv (by omega))
      rw [hHas] at CH
      clear hB0 hbt hkt hkB hkS hHas HBCI CB
      go_wp2_with (first
       | (at_builtin; refine wpl _ rfl _ _ 22 rfl (w.heap.size + 1) 9 i0 (.string ByteArray.empty) 1 16 Tryz.underlying22 hi0 hz0 hz1 hz2 rfl (by decide) _ _ _ rfl ((ows HOWN.out HB3.out).alloc _) ⟨w3.heap.size, 0, none⟩ 1 1 [.string ByteArray.empty] rfl rfl (cen _ _ _ _ rfl) (by intro u hu; simp at hu; subst hu; rfl) (by decide) (by unfold maxLen; omega) (by omega) (by have := HB3.out.size; simp; omega) ?_; intro v' w4 hown4 hg4 hw4 hv4; obtain ⟨g4, kc4, rfl⟩ := hv4; have HG := hid hg4; have HO4 := hid hown4; clear hg4 hown4 hw4)
       | (go_at_call 61; refine (CH.out _ _ _ V3.out).mono ?_; rintro e w4 ⟨rfl, rfl⟩)
       | (go_at_call 70; have _ := S2; refine (CO2.out _ HF0.out _ K2.out).mono ?_; rintro e w3 ⟨q3, c3, rfl, hsv3, hb3⟩; have K3 := hid (K2.out.below hb3 S2.out); have S3 := hid (Nat.le_trans S2.out hb3.size); have HB3 := hid (HB2.out.trans (hb3.mono S2.out)); have k3 := kc3.out _ K3.out; have ca3 := CA.out _ K3.out; have cb3 := CB2.out _ K3.out; have V23 := hid (V2.out.kept (Kept.of_below hb3 (Nat.le_refl _))); have V3 := hid hsv3; clear hsv3 hb3)
       | (go_at_call 69; have _ := S1; refine (CB2x.out _ K1.out).mono ?_; rintro e w2 ⟨q2, c2, rfl, hsv2, hb2⟩; have K2 := hid (K1.out.below hb2 S1.out); have S2 := hid (Nat.le_trans S1.out hb2.size); have HB2 := hid (HB1.out.trans (hb2.mono S1.out)); have k2 := kc3.out _ K2.out; have V2 := hid hsv2; clear hsv2 hb2)
       | (go_at_call 68; refine (CI.out _ (Kept.refl _)).mono ?_; rintro e w1 ⟨rfl, hb1⟩; have K1 := hid (Kept.of_below hb1 (Nat.le_refl _)); have HB1 := hid hb1; have S1 := hid hb1.size; have k1 := kc3.out _ K1.out; have kq := KQ.out w1 hb1; clear hb1))
      go_roundw
      case rel => 
       have hz3 := HB3.out.size
       refine ⟨i + 1, _, kc4, some ⟨g4, 0, none⟩, acc ++ [KT], by omega, by omega, by go_num, rfl, by rw [List.map_append, HKT.out]; exact HO4.out, ?_, HL2⟩
       exact ((HBEL.out.trans (HB3.out.mono (by omega))).alloc (by omega) _).grown HG.out (by simp; omega) (fun k e => (HOWN.out.lt k e).1)
      case measure => simp [intOf]; omega
     ·skip
      obtain ⟨kB, hkB⟩ : ∃ kB, B.length = kB := ⟨_, rfl⟩
      have hkB0 : 0 < kB := by rw [← hkB, hB0]; simp
      have hkB4 : kB ≤ 4 := by omega
      have CB2x := hid (fun W (hk : Kept wr W) => (CB.out W hk).mono fun e w' (h : OwnS B W e w') => (show ∃ q2 c2, e = .returned (.slice q2 kB c2) ∧ SV w' q2 kB c2 B ∧ Below W.heap.size W w' from by
       obtain ⟨q2, c2, he, hv, _, hb⟩ := h.full; rw [hkB] at he hv; exact ⟨q2, c2, he, hv, hb⟩))
      obtain ⟨kS, hkS⟩ : ∃ kS, BS.length = kS := ⟨_, rfl⟩
      have CO2 := hid (fun F0 hF W (hk : Kept wr W) => (CO2.out F0 hF W hk).mono fun e w' (h : OwnS BS W e w') => (show ∃ q3 c3, e = .returned (.slice q3 kS c3) ∧ SV w' q3 kS c3 BS ∧ Below W.heap.size W w' from by
       obtain ⟨q3, c3, he, hv, _, hb⟩ := h.full; rw [hkS] at he hv; exact ⟨q3, c3, he, hv, hb⟩))
      have hkS2 : kS ≤ 100 := by rw [← hkS, ← HBSE.out]; unfold bndS; repeat' (first | split | simp)
      have HKT := hid hkt
      have hbts : BS = bts.map Ty.text := by rw [← HBSE.out]; exact (bndS_some hbt).1
      have hHas : hasB BS ByteArray.empty.toList = false := by rw [← HBSE.out, show ByteArray.empty.toList = [] by rw [Go.ByteArray.toList_eq]; rfl]; exact (bndS_some hbt).2
      have hlen : kS = kB := by rw [← hkS, ← hkB, hbts, List.length_map, hbl, hB0]
      obtain rfl := hlen
      have CH := hid (fun (q3 : Option Addr) (c3 : Nat) W (hv : SV W q3 kS c3 BS) => lha ByteArray.empty BS q3 kS c3 W hv (by omega))
      rw [hHas] at CH
      have hrev := envWith_rev env B bts (by rw [hbl, hB0])
      have HTA := hid (fun (W : World) (np2 tp2 : Option Addr) (nc2 tc2 : Nat) (hkk : Kept wr W) (hv1 : SV W np2 (nn + kS) nc2 (ns ++ B)) (hv2 : SV W tp2 (nn + kS) tc2 (ts ++ BS)) => (show Calls Tryz.prog 27 #[.agg #[.string (A (i + 1)).a, .slice (A (i + 1)).p (A (i + 1)).l (A (i + 1)).c], .slice np2 (nn + kS) nc2, .slice tp2 (nn + kS) tc2] W fun e w' => e = .returned (.string (txtO KT)) ∧ Below W.heap.size W w' from by
       rw [hkt, ← hB0]
       exact HCT.out W hkk (enw env B bts) (ns ++ B) (ts ++ BS) np2 tp2 (nn + kS) nc2 tc2 W (KW.out.trans hkk (kep KW.out)) (envWith_ok HENV.out _ _ (bndT_ok hbt HFG.out HTY.out)) (by rw [hrev.1, ← HNS.out]) (by rw [hrev.2.1, ← HTS.out, hbts]) hv1 hv2 (by omega)))
      clear hbts hHas hrev
      obtain ⟨r, hr⟩ : ∃ r, txtO KT = r := ⟨_, rfl⟩
      rw [hr] at HTA
      have HRR := hid hr
      have HKB3 := hid hkB
      have HKS3 := hid hkS
      clear hB0 hkt hkS hr HBCI CB hbt hbl hkB
      go_wp2_with (first
       | (go_at_call 61; refine (CH.out _ _ _ V3.out).mono ?_; rintro e w4 ⟨rfl, rfl⟩)
       | (go_at_call 70; have _ := S2; refine (CO2.out _ HF0.out _ K2.out).mono ?_; rintro e w3 ⟨q3, c3, rfl, hsv3, hb3⟩; have K3 := hid (K2.out.below hb3 S2.out); have S3 := hid (Nat.le_trans S2.out hb3.size); have HB3 := hid (HB2.out.trans (hb3.mono S2.out)); have k3 := kc3.out _ K3.out; have ca3 := CA.out _ K3.out; have cb3 := CB2.out _ K3.out; have V23 := hid (V2.out.kept (Kept.of_below hb3 (Nat.le_refl _))); have V3 := hid hsv3; clear hsv3 hb3)
       | (go_at_call 69; have _ := S1; refine (CB2x.out _ K1.out).mono ?_; rintro e w2 ⟨q2, c2, rfl, hsv2, hb2⟩; have K2 := hid (K1.out.below hb2 S1.out); have S2 := hid (Nat.le_trans S1.out hb2.size); have HB2 := hid (HB1.out.trans (hb2.mono S1.out)); have k2 := kc3.out _ K2.out; have V2 := hid hsv2; clear hsv2 hb2)
       | (go_at_call 68; refine (CI.out _ (Kept.refl _)).mono ?_; rintro e w1 ⟨rfl, hb1⟩; have K1 := hid (Kept.of_below hb1 (Nat.le_refl _)); have HB1 := hid hb1; have S1 := hid hb1.size; have k1 := kc3.out _ K1.out; have kq := KQ.out w1 hb1; clear hb1))
      have K5 := K3
      have S5 := S3
      have HB5 := HB3
      have VB := V23
      have VS := V3
      have k6 := kc3.out w3.drew (K5.out.below ((Below.refl _ _).drew) S5.out)
      have HD5 := hid (HB5.out.trans (((Below.refl w3.heap.size w3).drew).mono S5.out))
      have VN := hid ((HSNR.out.kept (K5.out)).kept (Kept.of_below ((Below.refl w3.heap.size w3).drew) (Nat.le_refl _)))
      have VT := hid ((HSTR.out.kept (K5.out)).kept (Kept.of_below ((Below.refl w3.heap.size w3).drew) (Nat.le_refl _)))
      have VBD := hid (VB.out.kept (Kept.of_below ((Below.refl w3.heap.size w3).drew) (Nat.le_refl _)))
      have VSD := hid (VS.out.kept (Kept.of_below ((Below.refl w3.heap.size w3).drew) (Nat.le_refl _)))
      clear VB VS
      go_region_law (first
       | (go_simp; (go_at_call 27; have _ := HB7; refine (HTA.out _ _ _ _ _ K7.out VN7.out VT7.out).mono ?_; rintro e w8 ⟨rfl, hb8⟩; have K8 := hid (K7.out.below hb8 S7.out); have S8 := hid (Nat.le_trans S7.out hb8.size); have HB8 := hid (HB7.out.trans (hb8.mono S7.out)); have k8 := kc3.out _ K8.out; have ca8 := CA.out _ K8.out; have cb8 := CB2.out _ K8.out; clear hb8))
       | (go_simp; (go_at_call 72; have _ := HB6; refine (HWT.out _ _ _ _ _ _ _ _ _ VT6.out VS6.out (by omega) (by omega)).mono ?_; rintro e w7 hp7; obtain ⟨q7, c7, he7, hsv7, hlt7, hb7⟩ := hp7.full; rw [show (ts ++ BS).length = nn + kS by rw [List.length_append, HTL.out, HKS3.out]] at he7 hsv7; subst he7; have K7 := hid (K6.out.below hb7 S6.out); have S7 := hid (Nat.le_trans S6.out hb7.size); have HB7 := hid (HB6.out.trans (hb7.mono S6.out)); have k7 := kc3.out _ K7.out; have ca7 := CA.out _ K7.out; have cb7 := CB2.out _ K7.out; have VN7 := hid (VN6.out.kept (Kept.of_below hb7 (Nat.le_refl _))); have VT7 := hid hsv7; clear hb7 hsv7 hp7 hlt7))
       | (go_simp; (go_at_call 72; refine (HWT.out _ _ _ _ _ _ _ _ _ VN.out VBD.out (by omega) (by omega)).mono ?_; rintro e w6 hp6; obtain ⟨q6, c6, he6, hsv6, hlt6, hb6⟩ := hp6.full; rw [show (ns ++ B).length = nn + kS by rw [List.length_append, HNL.out, HKB3.out]] at he6 hsv6; subst he6; have K6 := hid ((Kept.of_below HD5.out (Nat.le_refl _)).below hb6 HD5.out.size); have S6 := hid (Nat.le_trans HD5.out.size hb6.size); have HB6 := hid (HD5.out.trans (hb6.mono HD5.out.size)); have kk6 := kc3.out _ K6.out; have ca6 := CA.out _ K6.out; have cb6 := CB2.out _ K6.out; have VN6 := hid hsv6; have VT6 := hid (VT.out.kept (Kept.of_below hb6 (Nat.le_refl _))); have VS6 := hid (VSD.out.kept (Kept.of_below hb6 (Nat.le_refl _))); clear hb6 hsv6 hp6 hlt6))
       | (have _ := hid HB8; refine step_append_lies _ rfl (.tmp 50) (.tmp 63) 22 rfl (w.heap.size + 1) 9 i0 (.string ByteArray.empty) 1 16 Tryz.underlying22 hi0 hz0 hz1 hz2 rfl (by decide) _ _ _ (by simp [Act.eval]) ((ows HOWN.out HB8.out).alloc _) ⟨w8.heap.size, 0, none⟩ 1 1 [.string r] (by simp [Act.eval]) rfl (cen _ _ _ _ rfl) (by intro u hu; simp at hu; subst hu; rfl) (by decide) (by unfold maxLen; omega) (by omega) (by have := HB8.out.size; simp; omega) _ rfl ?_; intro g4 kc4 w9 hown4 hg4 hw4 hlt4; have HG := hid hg4; have HO4 := hid hown4; clear hg4 hown4 hw4))
      all_goals
       go_wp2_with fail
       go_roundw
       case rel =>
        have hz8 := HB8.out.size
        refine ⟨i + 1, _, kc4, some ⟨g4, 0, none⟩, acc ++ [KT], by omega, by omega, by go_num, rfl, by rw [List.map_append, List.map_cons, List.map_nil, HRR.out]; exact HO4.out, ?_, HL2⟩
        exact ((HBEL.out.trans (HB8.out.mono (by omega))).alloc (by omega) _).grown HG.out (by simp; omega) (fun k e => (HOWN.out.lt k e).1)
       case measure => simp [intOf]; omega
    ·skip
     obtain ⟨F0, hF⟩ : ∃ F0, txtO fo = F0 := ⟨_, rfl⟩
     rw [hF] at hgc
     have HF0 := hid hF.symm
     have KQ := hid hgc
     clear hF hgc
     rcases HBCI.out with ⟨hB0, hkt⟩ | ⟨x0, xr, hB0, hbt, hkt⟩ | ⟨x0, xr, bts, hB0, hbt, hbl, hkt⟩
     ·skip
      have CB2x := hid (fun W (hk : Kept wr W) => (CB.out W hk).mono fun e w' (h : OwnS B W e w') => (show ∃ q2 c2, e = .returned (.slice q2 0 c2) ∧ SV w' q2 0 c2 [] ∧ Below W.heap.size W w' from by
       rw [hB0] at h; obtain ⟨q2, c2, he, hv, _, hb⟩ := h.full; exact ⟨q2, c2, he, hv, hb⟩))
      obtain ⟨kS, hkS⟩ : ∃ kS, BS.length = kS := ⟨_, rfl⟩
      have CO2 := hid (fun F0 hF W (hk : Kept wr W) => (CO2.out F0 hF W hk).mono fun e w' (h : OwnS BS W e w') => (show ∃ q3 c3, e = .returned (.slice q3 kS c3) ∧ SV w' q3 kS c3 BS ∧ Below W.heap.size W w' from by
       obtain ⟨q3, c3, he, hv, _, hb⟩ := h.full; rw [hkS] at he hv; exact ⟨q3, c3, he, hv, hb⟩))
      have hkS2 : kS ≤ 100 := by rw [← hkS, ← HBSE.out]; unfold bndS; repeat' (first | split | simp)
      have HKT := hid hkt
      have HTA := hid (fun (W : World) (np2 tp2 : Option Addr) (nc2 tc2 : Nat) (hkk : Kept wr W) (hv1 : SV W np2 (nn + 0) nc2 (ns ++ [])) (hv2 : SV W tp2 (nn + 0) tc2 (ts ++ [])) => (show Calls Tryz.prog 27 #[.agg #[.string (A (i + 1)).a, .slice (A (i + 1)).p (A (i + 1)).l (A (i + 1)).c], .slice np2 (nn + 0) nc2, .slice tp2 (nn + 0) tc2] W fun e w' => e = .returned (.string (txtO KT)) ∧ Below W.heap.size W w' from by
       rw [hkt]
       exact HCT.out W hkk env (ns ++ []) (ts ++ []) np2 tp2 (nn + 0) nc2 tc2 W (KW.out.trans hkk (kep KW.out)) HENV.out (by rw [List.append_nil]; exact HNS.out) (by rw [List.append_nil]; exact HTS.out) hv1 hv2 (by omega)))
      obtain ⟨r, hr⟩ : ∃ r, txtO KT = r := ⟨_, rfl⟩
      rw [hr] at HTA
      have HRR := hid hr
      clear hB0 hkt hkS hr HBCI CB
      go_wp2_with (first
       | (go_at_call 70; have _ := S2; refine (CO2.out _ HF0.out _ K2.out).mono ?_; rintro e w3 ⟨q3, c3, rfl, hsv3, hb3⟩; have K3 := hid (K2.out.below hb3 S2.out); have S3 := hid (Nat.le_trans S2.out hb3.size); have HB3 := hid (HB2.out.trans (hb3.mono S2.out)); have k3 := kc3.out _ K3.out; have ca3 := CA.out _ K3.out; have cb3 := CB2.out _ K3.out; have V23 := hid (V2.out.kept (Kept.of_below hb3 (Nat.le_refl _))); have V3 := hid hsv3; clear hsv3 hb3)
       | (go_at_call 69; have _ := S1; refine (CB2x.out _ K1.out).mono ?_; rintro e w2 ⟨q2, c2, rfl, hsv2, hb2⟩; have K2 := hid (K1.out.below hb2 S1.out); have S2 := hid (Nat.le_trans S1.out hb2.size); have HB2 := hid (HB1.out.trans (hb2.mono S1.out)); have k2 := kc3.out _ K2.out; have V2 := hid hsv2; clear hsv2 hb2)
       | (go_at_call 68; refine (CI.out _ (Kept.refl _)).mono ?_; rintro e w1 ⟨rfl, hb1⟩; have K1 := hid (Kept.of_below hb1 (Nat.le_refl _)); have HB1 := hid hb1; have S1 := hid hb1.size; have k1 := kc3.out _ K1.out; have kq := KQ.out w1 hb1; clear hb1))
      have hb35 : Below w3.heap.size w3 (w3.alloc (.cells #[] 9)) := (Below.refl _ _).alloc (Nat.le_refl _) _
      have VS := hid (show SV (w3.alloc (.cells #[] 9)) (some ⟨w3.heap.size, 0, none⟩) 0 0 [] from ⟨rfl, fun h => (by cases h), fun i s h => (by simp at h)⟩)
      have hz3 := S3.out
      obtain ⟨w5, hw5⟩ : ∃ w5, w3.alloc (.cells #[] 9) = w5 := ⟨_, rfl⟩
      rw [hw5] at hb35 VS ⊢
      clear hw5
      have K5 := hid (K3.out.below hb35 S3.out)
      have S5 := hid (Nat.le_trans S3.out hb35.size)
      have HB5 := hid (HB3.out.trans (hb35.mono S3.out))
      have VB := hid (V23.out.kept (Kept.of_below hb35 (Nat.le_refl _)))
      generalize w3.heap.size = gs at VS ⊢
      clear hb35 K3 S3 HB3 V23 V3
      have k5 := kc3.out _ K5.out
      have ca5 := CA.out _ K5.out
      have cb5 := CB2.out _ K5.out
      have k6 := kc3.out w5.drew (K5.out.below ((Below.refl _ _).drew) S5.out)
      have HD5 := hid (HB5.out.trans (((Below.refl w5.heap.size w5).drew).mono S5.out))
      have VN := hid ((HSNR.out.kept (K5.out)).kept (Kept.of_below ((Below.refl w5.heap.size w5).drew) (Nat.le_refl _)))
      have VT := hid ((HSTR.out.kept (K5.out)).kept (Kept.of_below ((Below.refl w5.heap.size w5).drew) (Nat.le_refl _)))
      have VBD := hid (VB.out.kept (Kept.of_below ((Below.refl w5.heap.size w5).drew) (Nat.le_refl _)))
      have VSD := hid (VS.out.kept (Kept.of_below ((Below.refl w5.heap.size w5).drew) (Nat.le_refl _)))
      clear VB VS
      go_region_law (first
       | (go_simp; (go_at_call 27; have _ := HB7; refine (HTA.out _ _ _ _ _ K7.out VN7.out VT7.out).mono ?_; rintro e w8 ⟨rfl, hb8⟩; have K8 := hid (K7.out.below hb8 S7.out); have S8 := hid (Nat.le_trans S7.out hb8.size); have HB8 := hid (HB7.out.trans (hb8.mono S7.out)); have k8 := kc3.out _ K8.out; have ca8 := CA.out _ K8.out; have cb8 := CB2.out _ K8.out; clear hb8))
       | (go_simp; (go_at_call 72; have _ := HB6; refine (HWT.out _ _ _ _ _ _ _ _ _ VT6.out VS6.out (by omega) (by omega)).mono ?_; rintro e w7 hp7; obtain ⟨q7, c7, he7, hsv7, hlt7, hb7⟩ := hp7.full; rw [show (ts ++ ([] : List ByteArray)).length = nn + 0 by rw [List.length_append, HTL.out, List.length_nil]] at he7 hsv7; subst he7; have K7 := hid (K6.out.below hb7 S6.out); have S7 := hid (Nat.le_trans S6.out hb7.size); have HB7 := hid (HB6.out.trans (hb7.mono S6.out)); have k7 := kc3.out _ K7.out; have ca7 := CA.out _ K7.out; have cb7 := CB2.out _ K7.out; have VN7 := hid (VN6.out.kept (Kept.of_below hb7 (Nat.le_refl _))); have VT7 := hid hsv7; clear hb7 hsv7 hp7 hlt7))
       | (go_simp; (go_at_call 72; refine (HWT.out _ _ _ _ _ _ _ _ _ VN.out VBD.out (by omega) (by omega)).mono ?_; rintro e w6 hp6; obtain ⟨q6, c6, he6, hsv6, hlt6, hb6⟩ := hp6.full; rw [show (ns ++ ([] : List ByteArray)).length = nn + 0 by rw [List.length_append, HNL.out, List.length_nil]] at he6 hsv6; subst he6; have K6 := hid ((Kept.of_below HD5.out (Nat.le_refl _)).below hb6 HD5.out.size); have S6 := hid (Nat.le_trans HD5.out.size hb6.size); have HB6 := hid (HD5.out.trans (hb6.mono HD5.out.size)); have kk6 := kc3.out _ K6.out; have ca6 := CA.out _ K6.out; have cb6 := CB2.out _ K6.out; have VN6 := hid hsv6; have VT6 := hid (VT.out.kept (Kept.of_below hb6 (Nat.le_refl _))); have VS6 := hid (VSD.out.kept (Kept.of_below hb6 (Nat.le_refl _))); clear hb6 hsv6 hp6 hlt6))
       | (have _ := hid HB8; refine step_append_lies _ rfl (.tmp 50) (.tmp 63) 22 rfl (w.heap.size + 1) 9 i0 (.string ByteArray.empty) 1 16 Tryz.underlying22 hi0 hz0 hz1 hz2 rfl (by decide) _ _ _ (by simp [Act.eval]) ((ows HOWN.out HB8.out).alloc _) ⟨w8.heap.size, 0, none⟩ 1 1 [.string r] (by simp [Act.eval]) rfl (cen _ _ _ _ rfl) (by intro u hu; simp at hu; subst hu; rfl) (by decide) (by unfold maxLen; omega) (by omega) (by have := HB8.out.size; simp; omega) _ rfl ?_; intro g4 kc4 w9 hown4 hg4 hw4 hlt4; have HG := hid hg4; have HO4 := hid hown4; clear hg4 hown4 hw4))
      all_goals
       go_wp2_with fail
       go_roundw
       case rel =>
        have hz8 := HB8.out.size
        refine ⟨i + 1, _, kc4, some ⟨g4, 0, none⟩, acc ++ [KT], by omega, by omega, by go_num, rfl, by rw [List.map_append, List.map_cons, List.map_nil, HRR.out]; exact HO4.out, ?_, HL2⟩
        exact ((HBEL.out.trans (HB8.out.mono (by omega))).alloc (by omega) _).grown HG.out (by simp; omega) (fun k e => (HOWN.out.lt k e).1)
       case measure => simp [intOf]; omega
     ·skip
      obtain ⟨kB, hkB⟩ : ∃ kB, B.length = kB := ⟨_, rfl⟩
      have hkB0 : 0 < kB := by rw [← hkB, hB0]; simp
      have hkB4 : kB ≤ 4 := by omega
      have CB2x := hid (fun W (hk : Kept wr W) => (CB.out W hk).mono fun e w' (h : OwnS B W e w') => (show ∃ q2 c2, e = .returned (.slice q2 kB c2) ∧ SV w' q2 kB c2 B ∧ Below W.heap.size W w' from by
       obtain ⟨q2, c2, he, hv, _, hb⟩ := h.full; rw [hkB] at he hv; exact ⟨q2, c2, he, hv, hb⟩))
      obtain ⟨kS, hkS⟩ : ∃ kS, BS.length = kS := ⟨_, rfl⟩
      have CO2 := hid (fun F0 hF W (hk : Kept wr W) => (CO2.out F0 hF W hk).mono fun e w' (h : OwnS BS W e w') => (show ∃ q3 c3, e = .returned (.slice q3 kS c3) ∧ SV w' q3 kS c3 BS ∧ Below W.heap.size W w' from by
       obtain ⟨q3, c3, he, hv, _, hb⟩ := h.full; rw [hkS] at he hv; exact ⟨q3, c3, he, hv, hb⟩))
      have hkS2 : kS ≤ 100 := by rw [← hkS, ← HBSE.out]; unfold bndS; repeat' (first | split | simp)
      have HKT := hid hkt
      have hHas : hasB BS ByteArray.empty.toList = true := by rw [← HBSE.out, show ByteArray.empty.toList = [] by rw [Go.ByteArray.toList_eq]; rfl]; exact bndS_none hbt
      have CH := hid (fun (q3 : Option Addr) (c3 : Nat) W (hv : SV W q3 kS c3 BS) => lha ByteArray.empty BS q3 kS c3 W hv (by omega))
      rw [hHas] at CH
      clear hB0 hbt hkt hkB hkS hHas HBCI CB
      go_wp2_with (first
       | (at_builtin; refine wpl _ rfl _ _ 22 rfl (w.heap.size + 1) 9 i0 (.string ByteArray.empty) 1 16 Tryz.underlying22 hi0 hz0 hz1 hz2 rfl (by decide) _ _ _ rfl ((ows HOWN.out HB3.out).alloc _) ⟨w3.heap.size, 0, none⟩ 1 1 [.string ByteArray.empty] rfl rfl (cen _ _ _ _ rfl) (by intro u hu; simp at hu; subst hu; rfl) (by decide) (by unfold maxLen; omega) (by omega) (by have := HB3.out.size; simp; omega) ?_; intro v' w4 hown4 hg4 hw4 hv4; obtain ⟨g4, kc4, rfl⟩ := hv4; have HG := hid hg4; have HO4 := hid hown4; clear hg4 hown4 hw4)
       | (go_at_call 61; refine (CH.out _ _ _ V3.out).mono ?_; rintro e w4 ⟨rfl, rfl⟩)
       | (go_at_call 70; have _ := S2; refine (CO2.out _ HF0.out _ K2.out).mono ?_; rintro e w3 ⟨q3, c3, rfl, hsv3, hb3⟩; have K3 := hid (K2.out.below hb3 S2.out); have S3 := hid (Nat.le_trans S2.out hb3.size); have HB3 := hid (HB2.out.trans (hb3.mono S2.out)); have k3 := kc3.out _ K3.out; have ca3 := CA.out _ K3.out; have cb3 := CB2.out _ K3.out; have V23 := hid (V2.out.kept (Kept.of_below hb3 (Nat.le_refl _))); have V3 := hid hsv3; clear hsv3 hb3)
       | (go_at_call 69; have _ := S1; refine (CB2x.out _ K1.out).mono ?_; rintro e w2 ⟨q2, c2, rfl, hsv2, hb2⟩; have K2 := hid (K1.out.below hb2 S1.out); have S2 := hid (Nat.le_trans S1.out hb2.size); have HB2 := hid (HB1.out.trans (hb2.mono S1.out)); have k2 := kc3.out _ K2.out; have V2 := hid hsv2; clear hsv2 hb2)
       | (go_at_call 68; refine (CI.out _ (Kept.refl _)).mono ?_; rintro e w1 ⟨rfl, hb1⟩; have K1 := hid (Kept.of_below hb1 (Nat.le_refl _)); have HB1 := hid hb1; have S1 := hid hb1.size; have k1 := kc3.out _ K1.out; have kq := KQ.out w1 hb1; clear hb1))
      go_roundw
      case rel => 
       have hz3 := HB3.out.size
       refine ⟨i + 1, _, kc4, some ⟨g4, 0, none⟩, acc ++ [KT], by omega, by omega, by go_num, rfl, by rw [List.map_append, HKT.out]; exact HO4.out, ?_, HL2⟩
       exact ((HBEL.out.trans (HB3.out.mono (by omega))).alloc (by omega) _).grown HG.out (by simp; omega) (fun k e => (HOWN.out.lt k e).1)
      case measure => simp [intOf]; omega
     ·skip
      obtain ⟨kB, hkB⟩ : ∃ kB, B.length = kB := ⟨_, rfl⟩
      have hkB0 : 0 < kB := by rw [← hkB, hB0]; simp
      have hkB4 : kB ≤ 4 := by omega
      have CB2x := hid (fun W (hk : Kept wr W) => (CB.out W hk).mono fun e w' (h : OwnS B W e w') => (show ∃ q2 c2, e = .returned (.slice q2 kB c2) ∧ SV w' q2 kB c2 B ∧ Below W.heap.size W w' from by
       obtain ⟨q2, c2, he, hv, _, hb⟩ := h.full; rw [hkB] at he hv; exact ⟨q2, c2, he, hv, hb⟩))
      obtain ⟨kS, hkS⟩ : ∃ kS, BS.length = kS := ⟨_, rfl⟩
      have CO2 := hid (fun F0 hF W (hk : Kept wr W) => (CO2.out F0 hF W hk).mono fun e w' (h : OwnS BS W e w') => (show ∃ q3 c3, e = .returned (.slice q3 kS c3) ∧ SV w' q3 kS c3 BS ∧ Below W.heap.size W w' from by
       obtain ⟨q3, c3, he, hv, _, hb⟩ := h.full; rw [hkS] at he hv; exact ⟨q3, c3, he, hv, hb⟩))
      have hkS2 : kS ≤ 100 := by rw [← hkS, ← HBSE.out]; unfold bndS; repeat' (first | split | simp)
      have HKT := hid hkt
      have hbts : BS = bts.map Ty.text := by rw [← HBSE.out]; exact (bndS_some hbt).1
      have hHas : hasB BS ByteArray.empty.toList = false := by rw [← HBSE.out, show ByteArray.empty.toList = [] by rw [Go.ByteArray.toList_eq]; rfl]; exact (bndS_some hbt).2
      have hlen : kS = kB := by rw [← hkS, ← hkB, hbts, List.length_map, hbl, hB0]
      obtain rfl := hlen
      have CH := hid (fun (q3 : Option Addr) (c3 : Nat) W (hv : SV W q3 kS c3 BS) => lha ByteArray.empty BS q3 kS c3 W hv (by omega))
      rw [hHas] at CH
      have hrev := envWith_rev env B bts (by rw [hbl, hB0])
      have HTA := hid (fun (W : World) (np2 tp2 : Option Addr) (nc2 tc2 : Nat) (hkk : Kept wr W) (hv1 : SV W np2 (nn + kS) nc2 (ns ++ B)) (hv2 : SV W tp2 (nn + kS) tc2 (ts ++ BS)) => (show Calls Tryz.prog 27 #[.agg #[.string (A (i + 1)).a, .slice (A (i + 1)).p (A (i + 1)).l (A (i + 1)).c], .slice np2 (nn + kS) nc2, .slice tp2 (nn + kS) tc2] W fun e w' => e = .returned (.string (txtO KT)) ∧ Below W.heap.size W w' from by
       rw [hkt, ← hB0]
       exact HCT.out W hkk (enw env B bts) (ns ++ B) (ts ++ BS) np2 tp2 (nn + kS) nc2 tc2 W (KW.out.trans hkk (kep KW.out)) (envWith_ok HENV.out _ _ (bndT_ok hbt HFG.out HTY.out)) (by rw [hrev.1, ← HNS.out]) (by rw [hrev.2.1, ← HTS.out, hbts]) hv1 hv2 (by omega)))
      clear hbts hHas hrev
      obtain ⟨r, hr⟩ : ∃ r, txtO KT = r := ⟨_, rfl⟩
      rw [hr] at HTA
      have HRR := hid hr
      have HKB3 := hid hkB
      have HKS3 := hid hkS
      clear hB0 hkt hkS hr HBCI CB hbt hbl hkB
      go_wp2_with (first
       | (go_at_call 61; refine (CH.out _ _ _ V3.out).mono ?_; rintro e w4 ⟨rfl, rfl⟩)
       | (go_at_call 70; have _ := S2; refine (CO2.out _ HF0.out _ K2.out).mono ?_; rintro e w3 ⟨q3, c3, rfl, hsv3, hb3⟩; have K3 := hid (K2.out.below hb3 S2.out); have S3 := hid (Nat.le_trans S2.out hb3.size); have HB3 := hid (HB2.out.trans (hb3.mono S2.out)); have k3 := kc3.out _ K3.out; have ca3 := CA.out _ K3.out; have cb3 := CB2.out _ K3.out; have V23 := hid (V2.out.kept (Kept.of_below hb3 (Nat.le_refl _))); have V3 := hid hsv3; clear hsv3 hb3)
       | (go_at_call 69; have _ := S1; refine (CB2x.out _ K1.out).mono ?_; rintro e w2 ⟨q2, c2, rfl, hsv2, hb2⟩; have K2 := hid (K1.out.below hb2 S1.out); have S2 := hid (Nat.le_trans S1.out hb2.size); have HB2 := hid (HB1.out.trans (hb2.mono S1.out)); have k2 := kc3.out _ K2.out; have V2 := hid hsv2; clear hsv2 hb2)
       | (go_at_call 68; refine (CI.out _ (Kept.refl _)).mono ?_; rintro e w1 ⟨rfl, hb1⟩; have K1 := hid (Kept.of_below hb1 (Nat.le_refl _)); have HB1 := hid hb1; have S1 := hid hb1.size; have k1 := kc3.out _ K1.out; have kq := KQ.out w1 hb1; clear hb1))
      have K5 := K3
      have S5 := S3
      have HB5 := HB3
      have VB := V23
      have VS := V3
      have k6 := kc3.out w3.drew (K5.out.below ((Below.refl _ _).drew) S5.out)
      have HD5 := hid (HB5.out.trans (((Below.refl w3.heap.size w3).drew).mono S5.out))
      have VN := hid ((HSNR.out.kept (K5.out)).kept (Kept.of_below ((Below.refl w3.heap.size w3).drew) (Nat.le_refl _)))
      have VT := hid ((HSTR.out.kept (K5.out)).kept (Kept.of_below ((Below.refl w3.heap.size w3).drew) (Nat.le_refl _)))
      have VBD := hid (VB.out.kept (Kept.of_below ((Below.refl w3.heap.size w3).drew) (Nat.le_refl _)))
      have VSD := hid (VS.out.kept (Kept.of_below ((Below.refl w3.heap.size w3).drew) (Nat.le_refl _)))
      clear VB VS
      go_region_law (first
       | (go_simp; (go_at_call 27; have _ := HB7; refine (HTA.out _ _ _ _ _ K7.out VN7.out VT7.out).mono ?_; rintro e w8 ⟨rfl, hb8⟩; have K8 := hid (K7.out.below hb8 S7.out); have S8 := hid (Nat.le_trans S7.out hb8.size); have HB8 := hid (HB7.out.trans (hb8.mono S7.out)); have k8 := kc3.out _ K8.out; have ca8 := CA.out _ K8.out; have cb8 := CB2.out _ K8.out; clear hb8))
       | (go_simp; (go_at_call 72; have _ := HB6; refine (HWT.out _ _ _ _ _ _ _ _ _ VT6.out VS6.out (by omega) (by omega)).mono ?_; rintro e w7 hp7; obtain ⟨q7, c7, he7, hsv7, hlt7, hb7⟩ := hp7.full; rw [show (ts ++ BS).length = nn + kS by rw [List.length_append, HTL.out, HKS3.out]] at he7 hsv7; subst he7; have K7 := hid (K6.out.below hb7 S6.out); have S7 := hid (Nat.le_trans S6.out hb7.size); have HB7 := hid (HB6.out.trans (hb7.mono S6.out)); have k7 := kc3.out _ K7.out; have ca7 := CA.out _ K7.out; have cb7 := CB2.out _ K7.out; have VN7 := hid (VN6.out.kept (Kept.of_below hb7 (Nat.le_refl _))); have VT7 := hid hsv7; clear hb7 hsv7 hp7 hlt7))
       | (go_simp; (go_at_call 72; refine (HWT.out _ _ _ _ _ _ _ _ _ VN.out VBD.out (by omega) (by omega)).mono ?_; rintro e w6 hp6; obtain ⟨q6, c6, he6, hsv6, hlt6, hb6⟩ := hp6.full; rw [show (ns ++ B).length = nn + kS by rw [List.length_append, HNL.out, HKB3.out]] at he6 hsv6; subst he6; have K6 := hid ((Kept.of_below HD5.out (Nat.le_refl _)).below hb6 HD5.out.size); have S6 := hid (Nat.le_trans HD5.out.size hb6.size); have HB6 := hid (HD5.out.trans (hb6.mono HD5.out.size)); have kk6 := kc3.out _ K6.out; have ca6 := CA.out _ K6.out; have cb6 := CB2.out _ K6.out; have VN6 := hid hsv6; have VT6 := hid (VT.out.kept (Kept.of_below hb6 (Nat.le_refl _))); have VS6 := hid (VSD.out.kept (Kept.of_below hb6 (Nat.le_refl _))); clear hb6 hsv6 hp6 hlt6))
       | (have _ := hid HB8; refine step_append_lies _ rfl (.tmp 50) (.tmp 63) 22 rfl (w.heap.size + 1) 9 i0 (.string ByteArray.empty) 1 16 Tryz.underlying22 hi0 hz0 hz1 hz2 rfl (by decide) _ _ _ (by simp [Act.eval]) ((ows HOWN.out HB8.out).alloc _) ⟨w8.heap.size, 0, none⟩ 1 1 [.string r] (by simp [Act.eval]) rfl (cen _ _ _ _ rfl) (by intro u hu; simp at hu; subst hu; rfl) (by decide) (by unfold maxLen; omega) (by omega) (by have := HB8.out.size; simp; omega) _ rfl ?_; intro g4 kc4 w9 hown4 hg4 hw4 hlt4; have HG := hid hg4; have HO4 := hid hown4; clear hg4 hown4 hw4))
      all_goals
       go_wp2_with fail
       go_roundw
       case rel =>
        have hz8 := HB8.out.size
        refine ⟨i + 1, _, kc4, some ⟨g4, 0, none⟩, acc ++ [KT], by omega, by omega, by go_num, rfl, by rw [List.map_append, List.map_cons, List.map_nil, HRR.out]; exact HO4.out, ?_, HL2⟩
        exact ((HBEL.out.trans (HB8.out.mono (by omega))).alloc (by omega) _).grown HG.out (by simp; omega) (fun k e => (HOWN.out.lt k e).1)
       case measure => simp [intOf]; omega
  ·have he : R = acc := by
     have := hL.out.1
     rw [List.drop_of_length_le (l := cs) (by rw [HSL.out]; omega)] at this
     simpa [Tree.kts] using this.symm
   have HE := hid he
   have HAL := hid hL.out.2.1
   clear he hL kw
   go_wp2_with fail
   go_ret
   rw [HE.out]
   have hmm : (acc.map txtO).length = m := by rw [List.length_map, HAL.out]
   refine ⟨q1, c, ?_, ?_, ?_⟩
   ·rw [hmm]; rfl
   ·rw [hmm, List.map_map]; exact own_base HOWN.out (by omega)
   ·exact HBW.out.trans (HBEL.out.mono (by omega))
end Go.Proofs.YtfogjomebcponaaGreatDoor
