/- Merged: SizeP, SortS, SpecU0, PartT, FreeM, BindsT. -/
import Derived.Test.YtfogjomebcponaaGreatDoorZGSSortT0
namespace Go.Proofs.YtfogjomebcponaaGreatDoor
open Go.RowKit
set_option maxRecDepth 100000
set_option maxHeartbeats 2000000
theorem termTree_none {s : ByteArray} (h : ter s = none) : readTm s = none := by
 have h1 := termTree_read s
 rw [h] at h1
 cases hr : readTm s with
 | none => rfl
 | some m => rw [hr] at h1; simp at h1
theorem termTree_some {s : ByteArray} {t : Tree} (h : ter s = some t) : parse s = some t ∧ t.srt ≠ none ∧ t.size ≤ 1500 ∧ ∃ m, readTm s = some m ∧ t.tm [] = some m := by
 have h1 := termTree_read s
 rw [h] at h1
 cases hr : readTm s with
 | none => rw [hr] at h1; simp at h1
 | some m =>
  obtain ⟨u, hp, hm, hs, _⟩ := rea hr
  unfold ter at h
  rw [hp] at h; simp only at h
  split at h
  ·rename_i hc; simp at h; subst h; exact ⟨hp, hc.1, hs, m, rfl, hm⟩
  ·simp at h
theorem specTermSort_any (s : ByteArray) (hs : s.size ≤ 400000000) (w : World) : Calls Tryz.prog 42 #[.string s] w fun e w' => e = .returned (.string (sortOf s)) ∧ Below w.heap.size w w' := by
 have HC := hid (fun W => l2Term_any s hs W)
 cases ht : ter s with
 | none =>
  have HR := hid (termTree_no ht)
  have HT := hid ht
  clear ht
  go_enter Tryz.func42, Tryz.ntmps42
  go_wp2_with (go_at_call 25; refine (HC.out _).mono ?_; rintro e w1 hp; rw [HT.out] at hp; obtain ⟨pa, pp, pl, pc, rfl, hpl, hb1⟩ := hp.none; clear hp)
  go_ret
  exact ⟨rer (by rw [HR.out]; rfl), hb1.alloc hb1.size _⟩
 | some t =>
  obtain ⟨hpt, hso⟩ := termTree_sort ht
  have hwt := pas hpt
  have hok := hid (parse_ok hpt)
  have HR := hid hso
  have HT := hid ht
  clear ht hpt hso
  go_enter Tryz.func42, Tryz.ntmps42
  go_wp2_with (first | (go_at_call 25; refine (HC.out _).mono ?_; rintro e w1 hp; rw [HT.out] at hp; obtain ⟨pa, pp, pl, pc, rfl, hb1, htr⟩ := hp.some; clear hp; have HD := hid (fun W hk hs => l2Sort_any htr hwt hok.out W hk hs); clear htr) | (go_at_call 55; refine (HD.out _ ((Kept.refl _).alloc (Nat.le_refl _) _) (by simp)).mono ?_; rintro e w2 ⟨rfl, hb2⟩))
  go_ret
  have s1 := hb1.size
  exact ⟨rer HR.out.symm, hb1.trans (((Below.refl _ _).alloc s1 _).trans (hb2.mono (by simp; omega)))⟩
theorem l2Inner_any (q : Tree) (b n cap i : Nat) (a : ByteArray) (c : Sg) (w : World) (hc0 : w.cell? ⟨b, 0, none⟩ = some (.string q.text)) (hn : 0 < n) (hcs : (shape q.text.toList)[i]? = some c) :
    Calls Tryz.prog 68 #[.agg #[.string a, .slice (some ⟨b, 0, none⟩) n cap], .int .i64 ((i : Int) + 1)] w fun e w' => e = .returned (.bool c.isK) ∧ Below w.heap.size w w' := by
 have HF := hid (fun W => l2Shape_any q.text W)
 have hi4 : i < 4 := by have := (List.getElem?_eq_some_iff.1 hcs).1; have := sha q.text.toList; omega
 have hFs := loS_size (shape q.text.toList)
 have HFG := hid (fun hi => loS_get (shape q.text.toList) i c hcs hi)
 have hil := (List.getElem?_eq_some_iff.1 hcs).1
 obtain ⟨F, hF⟩ : ∃ F, loS (shape q.text.toList) = F := ⟨_, rfl⟩
 rw [hF] at HF hFs HFG
 have hif : i < F.size := by omega
 have hfc := HFG.out hif
 have kc : ∀ o, (w.alloc o).cell? ⟨b, 0, none⟩ = some (.string q.text) := fun o => (World.cell?_of_block (w := w) (heap_alloc_old w o (World.block_lt_of_cell? w _ hc0))).trans hc0
 have f3 : F.size ≤ 4 := by have := sha q.text.toList; omega
 clear hF hFs HFG hil hcs hc0
 cases c with
 | V =>
  have e1 : F[i] = 118 := hfc
  clear hfc
  go_enter Tryz.func68, Tryz.ntmps68
  go_wp2_with (go_at_call 95; refine (HF.out _).mono ?_; rintro e w2 ⟨rfl, rfl⟩)
  go_ret
  exact ⟨reb rfl, (Below.refl _ _).alloc (Nat.le_refl _) _⟩
 | M =>
  have e1 : F[i] = 109 := hfc
  clear hfc
  go_enter Tryz.func68, Tryz.ntmps68
  go_wp2_with (go_at_call 95; refine (HF.out _).mono ?_; rintro e w2 ⟨rfl, rfl⟩)
  go_ret
  exact ⟨reb rfl, (Below.refl _ _).alloc (Nat.le_refl _) _⟩
 | X =>
  have e1 : F[i] = 120 := hfc
  clear hfc
  go_enter Tryz.func68, Tryz.ntmps68
  go_wp2_with (go_at_call 95; refine (HF.out _).mono ?_; rintro e w2 ⟨rfl, rfl⟩)
  go_ret
  exact ⟨reb rfl, (Below.refl _ _).alloc (Nat.le_refl _) _⟩
 | A =>
  have e1 : F[i] = 97 := hfc
  clear hfc
  go_enter Tryz.func68, Tryz.ntmps68
  go_wp2_with (go_at_call 95; refine (HF.out _).mono ?_; rintro e w2 ⟨rfl, rfl⟩)
  go_ret
  exact ⟨reb rfl, (Below.refl _ _).alloc (Nat.le_refl _) _⟩
 | C =>
  have e1 : F[i] = 99 := hfc
  clear hfc
  go_enter Tryz.func68, Tryz.ntmps68
  go_wp2_with (go_at_call 95; refine (HF.out _).mono ?_; rintro e w2 ⟨rfl, rfl⟩)
  go_ret
  exact ⟨reb rfl, (Below.refl _ _).alloc (Nat.le_refl _) _⟩
theorem part_texts {w0 : World} {S : Nat → Prop} {q : Tree} {qs : List Tree} {b n : Nat} {A : Nat → Hd} (hn : qs.length = n) (hA : ∀ i, i < n + 1 → w0.cell? ⟨b, i * 2, none⟩ = some (.string (A i).a)) (hps : ∀ i p, (q :: qs)[i]? = some p → TIn w0 S p (A i)) :
    w0.cell? ⟨b, 0, none⟩ = some (.string q.text) ∧ ∀ k p, qs[k]? = some p → w0.cell? ⟨b, (k + 1) * 2, none⟩ = some (.string p.text) := by
 refine ⟨?_, fun k p hp => ?_⟩
 ·have := hA 0 (by omega)
  rw [(hps 0 q rfl).text] at this; simpa using this
 ·have hk := (List.getElem?_eq_some_iff.1 hp).1
  have := hA (k + 1) (by omega)
  rw [(hps (k + 1) p (by simpa using hp)).text] at this; exact this
theorem frees_snoc (ks : List Tm) (i : Nat) (k : Tm) (h : ks[i]? = some k) : Tm.frees (ks.take (i + 1)) = Tm.frees (ks.take i) ++ k.free := by
 rw [List.take_add_one, h, Option.toList_some, frees_append, Tm.frees, Tm.frees, List.append_nil]
mutual
theorem free_length : ∀ m : Tm, m.free.length ≤ m.size
 | .mk hd a d bs ty ks => by
  rw [Tm.free, Tm.size]
  have := frees_length ks
  split
  ·simp; omega
  ·omega
theorem frees_length : ∀ ks : List Tm, (Tm.frees ks).length ≤ Tm.sizes ks
 | [] => by simp [Tm.frees]
 | k :: ks => by
  rw [Tm.frees, Tm.sizes, List.length_append]
  have := free_length k
  have := frees_length ks
  omega
end
theorem freeNames_any {w0 : World} {S : Nat → Prop} {m : Tm} {b : Nat} (hn : NIn w0 S m b) : m.size ≤ 100000 → ∀ w, Kept w0 w → w0.heap.size ≤ w.heap.size →
    Calls Tryz.prog 35 #[.pointer (some ⟨b, 0, none⟩)] w (OwnS m.free w) := by
 induction hn with
 | mk hd a d bs ty ks b bp bl bc kp kl kc A hS hb hbl hkl hbn hbv hkv hks ih =>
  intro hsz w hk hw
  have hfl := free_length (.mk hd a d bs ty ks)
  have hfk := frees_length ks
  rw [Tm.size] at hsz hfl
  have hlt0 := lt_of_block hb
  have c := ces ((hk b hlt0).trans hb)
  have c0 := c.1
  have c1 := c.2.1
  have c2 := c.2.2.1
  have c5 := c.2.2.2.2.2.1
  have hkl3 : kl ≤ 100000 := by have := tmsizes_length ks; omega
  have hsk : Tm.sizes ks ≤ 100000 := by omega
  have HKL := hid hkl
  have HKV := hid hkv
  have HIH := hid ih
  have HK := hid hk
  clear ih hk hb hbn hbv hS c hkl hkv hks hbl hfl hsz
  by_cases hf : hd.toList = [110, 97, 109, 101] ∧ d = -1
  ·have HF := hid (show (Tm.mk hd a d bs ty ks).free = [a] by rw [Tm.free, if_pos hf])
   obtain ⟨h1, h2⟩ := hf
   have e1 : (hd.toList == [110, 97, 109, 101]) = true := by simpa using h1
   have e2 : (d == -1) = true := by simpa using h2
   clear h1 h2
   go_enter Tryz.func35, Tryz.ntmps35
   go_wp2_with fail
   go_ret
   refine ⟨some ⟨w.heap.size, 0, none⟩, 1, ?_, ?_, ?_⟩
   ·rw [HF.out]; rfl
   ·rw [HF.out]
    exact ⟨rfl, Or.inr ⟨w.heap.size, 1, #[.string a], rfl, Nat.le_refl _, heap_alloc_new w _, Nat.le_refl _, by decide, rfl, rfl⟩⟩
   ·exact (Below.refl _ _).alloc (Nat.le_refl _) _
  ·have HF := hid (show (Tm.mk hd a d bs ty ks).free = Tm.frees ks by rw [Tm.free, if_neg hf])
   have hfc : (hd.toList == [110, 97, 109, 101]) = false ∨ ((hd.toList == [110, 97, 109, 101]) = true ∧ (d == -1) = false) := by
    cases e1 : hd.toList == [110, 97, 109, 101] with
    | false => exact Or.inl rfl
    | true =>
     refine Or.inr ⟨rfl, ?_⟩
     cases e2 : d == -1 with
     | false => rfl
     | true => exact absurd ⟨by simpa using e1, by simpa using e2⟩ hf
   clear hf
   obtain ⟨i0, hi0, hz0, hz1, hz2⟩ := info_parts Tryz.infoStr
   rcases hfc with e1 | ⟨e1, e2⟩
   all_goals
    go_enter Tryz.func35, Tryz.ntmps35
    go_wp2_with fail
    go_loopw [3, 28] (fun v u wr => ∃ (i k kc : Nat) (q : Option Addr), i ≤ kl ∧ u = .int .i64 (i : Int) ∧ v = .slice q k kc ∧ k ≤ 100000 ∧ wr.ownsRow w.heap.size 9 1 (.slice q k kc) k ((Tm.frees (ks.take i)).map Value.string) ∧ Below w.heap.size w wr ∧ Hid ((Tm.frees (ks.take i)).length = k)) (fun _ u _ => kl - (intOf u).toNat)
    case atStart => exact ⟨0, 0, 0, none, Nat.zero_le _, rfl, rfl, Nat.zero_le _, World.ownsRow_nil _ _ _ _, Below.refl _ _, hid rfl⟩
    case round =>
     obtain ⟨i, k, kc, q, hi, rfl, rfl, hk5, hown, hbel, hkk⟩ := hrel
     have hz := hbel.size
     have HOWN := hid hown
     have HBEL := hid hbel
     have hkw : Kept w0 wr := HK.out.below hbel (by omega)
     clear hown hbel
     by_cases hlt : i < kl
     ·obtain ⟨t, hti⟩ : ∃ t, ks[i]? = some t := ⟨_, List.getElem?_eq_getElem (by rw [HKL.out]; exact hlt)⟩
      obtain ⟨g, rfl, _, hc⟩ := HKV.out i _ (ptrs_get A hlt)
      have hc' := hkw.cell hc
      have htk := tmsizes_take ks (i + 1)
      have hsn := tmsizes_snoc ks i t hti
      have hts : t.size ≤ 100000 := by omega
      have HC := hid (HIH.out i t hti hts wr hkw (by omega))
      have hfs := frees_snoc ks i t hti
      have hfl2 := frees_length (ks.take (i + 1))
      have hln : (Tm.frees (ks.take (i + 1))).length = k + t.free.length := by rw [hfs, List.length_append, hkk.out]
      have hkn : k + t.free.length ≤ 100000 := by omega
      have HFS := hid hfs
      have HLN := hid hln
      clear hc hti htk hsn hkw c0 c1 c2 c5 hfs hfl2 hln
      obtain ⟨F, hFF⟩ : ∃ F, t.free = F := ⟨_, rfl⟩
      rw [hFF] at HC HFS hkn HLN
      clear hFF
      go_wp2_with (first | (at_builtin; have _ := hb1; refine wpi _ rfl _ _ 22 rfl w.heap.size 9 i0 (.string ByteArray.empty) 16 Tryz.underlying22 hi0 hz0 hz1 hz2 rfl _ _ _ _ rfl (ows HOWN.out hb1) _ _ _ F rfl hsv (by unfold maxLen; omega) (by omega) (by have := hb1.size; omega) ?_; intro q2 k2 w2 ho2 hg2; have HO2 := hid ho2; have HG2 := hid hg2; clear ho2 hg2) | (go_at_call 35; refine HC.out.mono ?_; rintro e w1 hp; obtain ⟨q1, c1, rfl, hsv, hb1⟩ := hp.sv; clear hp))
      go_roundw
      case rel =>
       refine ⟨i + 1, k + F.length, k2, q2, by omega, by go_num, rfl, hkn, ?_, ?_, HLN⟩
       ·rw [HFS.out, List.map_append]; exact HO2.out
       ·exact (HBEL.out.trans (hb1.mono (by omega))).grown HG2.out (by have := hb1.size; omega) (fun k e => (HOWN.out.lt k e).1)
      case measure => simp [intOf]; omega
     ·have hin : i = kl := by omega
      have HE := hid (show ks.take i = ks from List.take_of_length_le (by rw [HKL.out]; omega))
      clear hin
      go_wp2_with fail
      go_ret
      refine ⟨q, kc, ?_, ?_, HBEL.out⟩
      ·have := hkk.out
       rw [HE.out] at this; rw [HF.out, this]; rfl
      ·have := hkk.out
       have h2 := HOWN.out
       rw [HE.out] at this h2; rw [HF.out, this]; exact h2
def bnd (last : Bool) (xs : List ByteArray) : List ByteArray := if last = true then xs else []
theorem xsOf_length : ∀ (cs : List Sg) (ps : List Tree), (xsOf cs ps).length ≤ ps.length
 | [], _ => by simp [xsOf]
 | c :: cs, [] => by cases c <;> simp [xsOf]
 | c :: cs, p :: ps => by
  have := xsOf_length cs ps
  cases c <;> simp [xsOf] <;> omega
theorem xsOf_step {cs : List Sg} {qs : List Tree} {j : Nat} {c : Sg} {p : Tree} (hc : cs[j]? = some c) (hp : qs[j]? = some p) :
    xsOf (cs.drop j) (qs.drop j) = if c = .X then p.text :: xsOf (cs.drop (j + 1)) (qs.drop (j + 1)) else xsOf (cs.drop (j + 1)) (qs.drop (j + 1)) := by
 rw [dro hc, dro hp]
 cases c <;> simp [xsOf]
theorem lo_X (c : Sg) (h : c ≠ .X) : ((c.lo.toNat : Int) == 120) = false := by
 cases c <;> first | rfl | exact absurd rfl h
theorem l2Binds_not (b N cap : Nat) (a : ByteArray) (j : Int) (w : World) (hj : j < (N : Int) - 1) (hN : N ≤ 100) :
    Calls Tryz.prog 69 #[.agg #[.string a, .slice (some ⟨b, 0, none⟩) N cap], .int .i64 j] w (OwnS [] w) := by
 have HO := hid (own_empty (w.alloc (.cells #[.string a, .slice (some ⟨b, 0, none⟩) N cap] 43)) w.heap.size (by simp))
 go_enter Tryz.func69, Tryz.ntmps69
 go_wp2_with fail
 go_ret
 exact ⟨_, 0, rfl, by simpa using HO.out, ((Below.refl _ _).alloc (Nat.le_refl _) _).alloc (by simp) _⟩
theorem l2Binds_last (q : Tree) (qs : List Tree) (b N n cap : Nat) (a : ByteArray) (j : Int) (w : World) (hN : N = n + 1) (hn : qs.length = n) (hsl : (shape q.text.toList).length = qs.length) (hj : (N : Int) - 1 ≤ j)
    (hc0 : w.cell? ⟨b, 0, none⟩ = some (.string q.text)) (hT : ∀ k p, qs[k]? = some p → w.cell? ⟨b, (k + 1) * 2, none⟩ = some (.string p.text)) :
    Calls Tryz.prog 69 #[.agg #[.string a, .slice (some ⟨b, 0, none⟩) N cap], .int .i64 j] w (OwnS (xsOf (shape q.text.toList) qs) w) := by
 have HF := hid (fun W => l2Shape_any q.text W)
 have hsz := loS_size (shape q.text.toList)
 have h4 := sha q.text.toList
 have HFG := hid (fun i c h hi => loS_get (shape q.text.toList) i c h hi)
 obtain ⟨F, hF⟩ : ∃ F, loS (shape q.text.toList) = F := ⟨_, rfl⟩
 rw [hF] at HF hsz HFG
 have hFn : F.size = n := by omega
 have HFN := hid hFn
 have f3 : F.size ≤ 4 := by omega
 have hN1 : n < N := by omega
 have hN5 : N ≤ 5 := by omega
 have HSL := hid (hsl.trans hn)
 have HN := hid hn
 have HT := hid hT
 have HC0 := hid hc0
 have hd : decide (j < (N : Int) - 1) = false := decide_eq_false (by omega)
 have hlt0 := World.block_lt_of_cell? w _ hc0
 have HO := hid (own_empty (w.alloc (.cells #[.string a, .slice (some ⟨b, 0, none⟩) N cap] 43)) (w.heap.size + 1) (by simp))
 have kc0 : ((w.alloc (.cells #[.string a, .slice (some ⟨b, 0, none⟩) N cap] 43)).alloc (.cells #[] 9)).cell? ⟨b, 0, none⟩ = some (.string q.text) := ((((Kept.refl w).alloc (Nat.le_refl _) _).alloc (by simp) _)).cell hc0
 obtain ⟨cs, hcs⟩ : ∃ cs, shape q.text.toList = cs := ⟨_, rfl⟩
 rw [hcs] at HSL HFG ⊢
 have hFle : n ≤ F.size := by omega
 obtain ⟨i0, hi0, hz0, hz1, hz2⟩ := info_parts Tryz.infoStr
 clear hF hsz hFn hsl hn hT hN hcs h4 hc0
 go_enter Tryz.func69, Tryz.ntmps69
 go_wp2_with (go_at_call 95; refine (HF.out _).mono ?_; rintro e w2 ⟨rfl, rfl⟩)
 go_loopw [5, 7] (fun v u wr => ∃ (i m c g : Nat) (L : List ByteArray), i ≤ F.size ∧ m ≤ i ∧ u = .int .i64 (i : Int) ∧ v = .slice (some ⟨g, 0, none⟩) m c ∧ wr.ownsRow (w.heap.size + 1) 9 1 (.slice (some ⟨g, 0, none⟩) m c) m (L.map Value.string) ∧
     Below (w.heap.size + 1) (w.alloc (.cells #[.string a, .slice (some ⟨b, 0, none⟩) N cap] 43)) wr ∧ Hid (L ++ xsOf (cs.drop i) (qs.drop i) = xsOf cs qs ∧ L.length = m)) (fun _ u _ => F.size - (intOf u).toNat)
 case atStart => exact ⟨0, 0, 0, _, [], Nat.zero_le _, Nat.le_refl _, rfl, rfl, by simpa using HO.out, (Below.refl _ _).alloc (by simp) _, hid ⟨by simp, rfl⟩⟩
 case round =>
  obtain ⟨i, m, c, g, L, hi, hmi, rfl, rfl, hown, hbel, hL⟩ := hrel
  have hz := hbel.size
  simp at hz
  have kc2 := cel (blo (hea w (.cells #[.string a, .slice (some ⟨b, 0, none⟩) N cap] 43) w.heap.size rfl) hbel (by omega))
  have kw : Kept w wr := ((Kept.refl w).alloc (Nat.le_refl _) _).below hbel (by omega)
  have HOWN := hid hown
  have HBEL := hid hbel
  clear hown hbel
  by_cases hlt : i < F.size
  ·have hin : i < n := by have := HFN.out; omega
   obtain ⟨p, hp⟩ : ∃ p, qs[i]? = some p := ⟨_, List.getElem?_eq_getElem (by rw [HN.out]; exact hin)⟩
   obtain ⟨d, hdc⟩ : ∃ d, cs[i]? = some d := ⟨_, List.getElem?_eq_getElem (by rw [HSL.out]; exact hin)⟩
   have hfc := HFG.out i d hdc hlt
   have ct := kw.cell (HT.out i p hp)
   have hst := xsOf_step hdc hp
   have d2 : i + 1 < N := by omega
   by_cases hX : d = .X
   ·subst hX
    rw [if_pos rfl] at hst
    have HL2 := hid (show (L ++ [p.text]) ++ xsOf (cs.drop (i + 1)) (qs.drop (i + 1)) = xsOf cs qs ∧ (L ++ [p.text]).length = m + 1 by
     refine ⟨?_, by simp [hL.out.2]⟩
     rw [List.append_assoc, List.singleton_append, ← hst]; exact hL.out.1)
    have e1 : F[i] = 120 := hfc
    clear hst hfc hdc hp kw hL hd
    go_wp2_with (at_builtin; refine wpl _ rfl _ _ 22 rfl (w.heap.size + 1) 9 i0 (.string ByteArray.empty) 1 16 Tryz.underlying22 hi0 hz0 hz1 hz2 rfl (by decide) (.slice (some ⟨g, 0, none⟩) m c) m _ rfl (HOWN.out.alloc _) ⟨wr.heap.size, 0, none⟩ 1 1 [.string p.text] rfl rfl (cen _ _ _ _ rfl) (by intro u hu; simp at hu; subst hu; rfl) (by decide) (by unfold maxLen; omega) (by omega) (by simp; omega) ?_; intro v' w2 hown2 hg2 hw2 hv2; obtain ⟨g2, kc3, rfl⟩ := hv2; have HG := hid hg2; have HO2 := hid hown2; clear hg2 hown2 hw2)
    go_roundw
    case rel =>
     refine ⟨i + 1, m + 1, kc3, g2, L ++ [p.text], by omega, by omega, by go_num, rfl, by rw [List.map_append]; exact HO2.out, ?_, HL2⟩
     exact (HBEL.out.alloc (by omega) _).grown HG.out (by simp; omega) (fun k e => (HOWN.out.lt k e).1)
    case measure => simp [intOf]; omega
   ·rw [if_neg hX] at hst
    have e1 : ((F[i].toNat : Int) == 120) = false := by rw [hfc]; exact lo_X d hX
    have HL2 := hid (show L ++ xsOf (cs.drop (i + 1)) (qs.drop (i + 1)) = xsOf cs qs ∧ L.length = m from ⟨by rw [← hst]; exact hL.out.1, hL.out.2⟩)
    clear hst hfc hdc hp kw hL hd hX
    go_wp2_with fail
    go_roundw
    case rel => exact ⟨i + 1, m, c, g, L, by omega, by omega, by go_num, rfl, HOWN.out, HBEL.out, HL2⟩
    case measure => simp [intOf]; omega
  ·have he : L = xsOf cs qs := by
     have := hL.out.1
     rw [List.drop_of_length_le (l := cs) (by rw [HSL.out]; have := HFN.out; omega)] at this
     simpa [xsOf] using this
   have HE := hid he
   have HLL := hid hL.out.2
   clear he hL kw hd
   go_wp2_with fail
   go_ret
   refine ⟨some ⟨g, 0, none⟩, c, ?_, ?_, ?_⟩
   ·rw [← HE.out, HLL.out]; rfl
   ·rw [← HE.out, HLL.out]; exact own_base HOWN.out (by omega)
   ·exact ((Below.refl w.heap.size w).alloc (Nat.le_refl _) _).trans (HBEL.out.mono (by omega))
theorem l2Binds_any (q : Tree) (qs : List Tree) (b N n i cap : Nat) (a : ByteArray) (w : World) (hN : N = n + 1) (hn : qs.length = n) (hi : i < n) (hsl : (shape q.text.toList).length = qs.length)
    (hc0 : w.cell? ⟨b, 0, none⟩ = some (.string q.text)) (hT : ∀ k p, qs[k]? = some p → w.cell? ⟨b, (k + 1) * 2, none⟩ = some (.string p.text)) :
    Calls Tryz.prog 69 #[.agg #[.string a, .slice (some ⟨b, 0, none⟩) N cap], .int .i64 ((i : Int) + 1)] w (OwnS (bnd (decide (i + 1 = n)) (xsOf (shape q.text.toList) qs)) w) := by
 have h4 := sha q.text.toList
 by_cases hl : i + 1 = n
 ·rw [decide_eq_true hl]
  exact l2Binds_last q qs b N n cap a _ w hN hn hsl (by omega) hc0 hT
 ·rw [decide_eq_false hl]
  exact l2Binds_not b N cap a _ w (by omega) (by omega)
end Go.Proofs.YtfogjomebcponaaGreatDoor
