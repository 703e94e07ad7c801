/- The names that stand free in a term, by the program: freeNames; TermUses, TermClosed of the program. -/
import Derived.Test.YtjennpiogdcngaaDoorSizeT
import Derived.Test.YtjennpiogdcngaaDoorUsesT
namespace Go.Proofs.YtjennpiogdcngaaDoor
open Go.RowKit

theorem frees_snoc (ks : List Tm) (i : Nat) (k : Tm) (h : ks[i]? = some k) : Tm.frees (ks.take (i + 1)) = Tm.frees (ks.take i) ++ k.free := by
  rw [List.take_add_one, h, Option.toList_some, frees_append, Tm.frees, Tm.frees, List.append_nil]
mutual
theorem free_length : ∀ m : Tm, m.free.length ≤ m.size
  | .mk hd a d bs ty ks => by
    rw [Tm.free, Tm.size]
    have := frees_length ks
    split
    · simp; omega
    · omega
theorem frees_length : ∀ ks : List Tm, (Tm.frees ks).length ≤ Tm.sizes ks
  | [] => by simp [Tm.frees]
  | k :: ks => by
    rw [Tm.frees, Tm.sizes, List.length_append]
    have := free_length k
    have := frees_length ks
    omega
end

set_option maxRecDepth 100000 in
set_option maxHeartbeats 2000000 in
theorem freeNames_any {w0 : World} {S : Nat → Prop} {m : Tm} {b : Nat} (hn : NIn w0 S m b) : m.size ≤ 100000 → ∀ w, Kept w0 w → w0.heap.size ≤ w.heap.size →
    Calls Tryd.prog 45 #[.pointer (some ⟨b, 0, none⟩)] w (OwnS m.free w) := by
  induction hn with
  | mk hd a d bs ty ks b bp bl bc kp kl kc A hS hb hbl hkl hbn hbv hkv hks ih =>
    intro hsz w hk hw
    have hfl := free_length (.mk hd a d bs ty ks)
    have hfk := frees_length ks
    rw [Tm.size] at hsz hfl
    have hlt0 := lt_of_block hb
    have c := cells_of_six ((hk b hlt0).trans hb)
    have c0 := c.1
    have c1 := c.2.1
    have c2 := c.2.2.1
    have c5 := c.2.2.2.2.2.1
    have hkl3 : kl ≤ 100000 := by have := tmsizes_length ks; omega
    have hsk : Tm.sizes ks ≤ 100000 := by omega
    have HKL := hid hkl
    have HKV := hid hkv
    have HIH := hid ih
    have HK := hid hk
    clear ih hk hb hbn hbv hS c hkl hkv hks hbl hfl hsz
    by_cases hf : hd.toList = [110, 97, 109, 101] ∧ d = -1
    · have HF := hid (show (Tm.mk hd a d bs ty ks).free = [a] by rw [Tm.free, if_pos hf])
      obtain ⟨h1, h2⟩ := hf
      have e1 : (hd.toList == [110, 97, 109, 101]) = true := by simpa using h1
      have e2 : (d == -1) = true := by simpa using h2
      clear h1 h2
      go_enter Tryd.func45, Tryd.ntmps45
      go_wp2_with fail
      go_ret
      refine ⟨some ⟨w.heap.size, 0, none⟩, 1, ?_, ?_, ?_⟩
      · rw [HF.out]; rfl
      · rw [HF.out]
        exact ⟨rfl, Or.inr ⟨w.heap.size, 1, #[.string a], rfl, Nat.le_refl _, heap_alloc_new w _, Nat.le_refl _, by decide, rfl, rfl⟩⟩
      · exact (Below.refl _ _).alloc (Nat.le_refl _) _
    · have HF := hid (show (Tm.mk hd a d bs ty ks).free = Tm.frees ks by rw [Tm.free, if_neg hf])
      have hfc : (hd.toList == [110, 97, 109, 101]) = false ∨ ((hd.toList == [110, 97, 109, 101]) = true ∧ (d == -1) = false) := by
        cases e1 : hd.toList == [110, 97, 109, 101] with
        | false => exact Or.inl rfl
        | true =>
          refine Or.inr ⟨rfl, ?_⟩
          cases e2 : d == -1 with
          | false => rfl
          | true => exact absurd ⟨by simpa using e1, by simpa using e2⟩ hf
      clear hf
      obtain ⟨i0, hi0, hz0, hz1, hz2⟩ := info_parts Tryd.infoStr
      rcases hfc with e1 | ⟨e1, e2⟩
      all_goals
        go_enter Tryd.func45, Tryd.ntmps45
        go_wp2_with fail
        go_loopw [3, 28] (fun v u wr => ∃ (i k kc : Nat) (q : Option Addr), i ≤ kl ∧ u = .int .i64 (i : Int) ∧ v = .slice q k kc ∧ k ≤ 100000 ∧ wr.ownsRow w.heap.size 9 1 (.slice q k kc) k ((Tm.frees (ks.take i)).map Value.string) ∧ Below w.heap.size w wr ∧ Hid ((Tm.frees (ks.take i)).length = k)) (fun _ u _ => kl - (intOf u).toNat)
        case atStart => exact ⟨0, 0, 0, none, Nat.zero_le _, rfl, rfl, Nat.zero_le _, World.ownsRow_nil _ _ _ _, Below.refl _ _, hid rfl⟩
        case round =>
          obtain ⟨i, k, kc, q, hi, rfl, rfl, hk5, hown, hbel, hkk⟩ := hrel
          have hz := hbel.size
          have HOWN := hid hown
          have HBEL := hid hbel
          have hkw : Kept w0 wr := HK.out.below hbel (by omega)
          clear hown hbel
          by_cases hlt : i < kl
          · obtain ⟨t, hti⟩ : ∃ t, ks[i]? = some t := ⟨_, List.getElem?_eq_getElem (by rw [HKL.out]; exact hlt)⟩
            obtain ⟨g, rfl, _, hc⟩ := HKV.out i _ (ptrs_get A hlt)
            have hc' := hkw.cell hc
            have htk := tmsizes_take ks (i + 1)
            have hsn := tmsizes_snoc ks i t hti
            have hts : t.size ≤ 100000 := by omega
            have HC := hid (HIH.out i t hti hts wr hkw (by omega))
            have hfs := frees_snoc ks i t hti
            have hfl2 := frees_length (ks.take (i + 1))
            have hln : (Tm.frees (ks.take (i + 1))).length = k + t.free.length := by rw [hfs, List.length_append, hkk.out]
            have hkn : k + t.free.length ≤ 100000 := by omega
            have HFS := hid hfs
            have HLN := hid hln
            clear hc hti htk hsn hkw c0 c1 c2 c5 hfs hfl2 hln
            obtain ⟨F, hFF⟩ : ∃ F, t.free = F := ⟨_, rfl⟩
            rw [hFF] at HC HFS hkn HLN
            clear hFF
            go_wp2_with (first | (at_builtin; have _ := hb1; refine wpList_append_sv _ rfl _ _ 24 rfl w.heap.size 9 i0 (.string ByteArray.empty) 16 Tryd.underlying24 hi0 hz0 hz1 hz2 rfl _ _ _ _ rfl (ownsRow_under HOWN.out hb1) _ _ _ F rfl hsv (by unfold maxLen; omega) (by omega) (by have := hb1.size; omega) ?_; intro q2 k2 w2 ho2 hg2; have HO2 := hid ho2; have HG2 := hid hg2; clear ho2 hg2) | (go_at_call 45; refine HC.out.mono ?_; rintro e w1 hp; obtain ⟨q1, c1, rfl, hsv, hb1⟩ := hp.sv; clear hp))
            go_roundw
            case rel =>
              refine ⟨i + 1, k + F.length, k2, q2, by omega, by go_num, rfl, hkn, ?_, ?_, HLN⟩
              · rw [HFS.out, List.map_append]; exact HO2.out
              · exact (HBEL.out.trans (hb1.mono (by omega))).grown HG2.out (by have := hb1.size; omega) (fun k e => (HOWN.out.lt k e).1)
            case measure => simp [intOf]; omega
          · have hin : i = kl := by omega
            have HE := hid (show ks.take i = ks from List.take_of_length_le (by rw [HKL.out]; omega))
            clear hin
            go_wp2_with fail
            go_ret
            refine ⟨q, kc, ?_, ?_, HBEL.out⟩
            · have := hkk.out
              rw [HE.out] at this; rw [HF.out, this]; rfl
            · have := hkk.out
              have h2 := HOWN.out
              rw [HE.out] at this h2; rw [HF.out, this]; exact h2

/-- What TermUses answers. -/
def usesOf (s name : ByteArray) : Int := match readTm s with
  | some m => if nameB name.toList = true then (cntB name.toList m.free : Int) else -1
  | none => -1
theorem usesOf_none {s n : ByteArray} (h : readTm s = none) : usesOf s n = -1 := by rw [usesOf, h]
theorem usesOf_no {s n : ByteArray} (h : nameB n.toList = false) : usesOf s n = -1 := by
  rw [usesOf]
  cases readTm s with
  | none => rfl
  | some m => simp only; rw [if_neg (by rw [h]; simp)]
theorem usesOf_some {s n : ByteArray} {m : Tm} (h : readTm s = some m) (hn : nameB n.toList = true) : usesOf s n = (cntB n.toList m.free : Int) := by rw [usesOf, h]; simp only; rw [if_pos hn]
theorem cntB_snoc (s : List UInt8) (l : List ByteArray) (i : Nat) (x : ByteArray) (h : l[i]? = some x) : cntB s (l.take (i + 1)) = cntB s (l.take i) + (if x.toList = s then 1 else 0) := by
  rw [List.take_add_one, h, Option.toList_some, cntB_append]
  congr 1
  by_cases e : x.toList = s <;> simp [cntB, e]
theorem cntB_le (s : List UInt8) (l : List ByteArray) : cntB s l ≤ l.length := List.countP_le_length

set_option maxRecDepth 100000 in
set_option maxHeartbeats 2000000 in
theorem implTermUses_any (s name : ByteArray) (hs : s.size ≤ 2000000) (hn : name.size ≤ 2000000) (w : World) : Calls Tryd.prog 28 #[.string s, .string name] w fun e w' => e = .returned (.int .i64 (usesOf s name)) ∧ Below w.heap.size w w' := by
  have HC := hid (fun W => readTerm_any s hs W)
  have HNM := hid (fun W => isName_any name hn W)
  cases hr : readTm s with
  | none =>
    have HR := hid hr
    have HS := hid (usesOf_none (n := name) hr)
    clear hr
    go_enter Tryd.func28, Tryd.ntmps28
    go_wp2_with (go_at_call 37; refine (HC.out _).mono ?_; rintro e w1 hp; rw [HR.out] at hp; obtain ⟨rfl, hb1⟩ := hp.none; clear hp)
    go_ret
    exact ⟨ret_int HS.out.symm, hb1⟩
  | some m =>
    have HR := hid hr
    obtain ⟨t, _, _, _, hms⟩ := readTm_inv hr
    cases hnb : nameB name.toList with
    | false =>
      have HS := hid (usesOf_no (s := s) hnb)
      rw [hnb] at HNM
      clear hr hnb
      go_enter Tryd.func28, Tryd.ntmps28
      go_wp2_with (first | (go_at_call 51; have _ := hb1; refine (HNM.out _).mono ?_; rintro e w2 ⟨rfl, hb2⟩) | (go_at_call 37; refine (HC.out _).mono ?_; rintro e w1 hp; rw [HR.out] at hp; obtain ⟨b, rfl, hb1, hn1⟩ := hp.some; clear hp hn1))
      go_ret
      exact ⟨ret_int HS.out.symm, hb1.trans (hb2.mono hb1.size)⟩
    | true =>
      have HS := hid (usesOf_some hr hnb)
      rw [hnb] at HNM
      have hfl := free_length m
      obtain ⟨F, hF⟩ : ∃ F, m.free = F := ⟨_, rfl⟩
      rw [hF] at HS hfl
      have hfl2 : F.length ≤ 1500 := by omega
      have HFF := hid hF
      clear hr hnb hF hfl
      go_enter Tryd.func28, Tryd.ntmps28
      go_wp2_with (first | (go_at_call 45; have _ := hb2; refine (HN.out _ (Kept.of_below hb2 (Nat.le_refl _)) hb2.size).mono ?_; rintro e w3 hp; rw [HFF.out] at hp; obtain ⟨q3, c3, rfl, hsv, hb3⟩ := hp.sv; have HSV := hid hsv; clear hp hsv) | (go_at_call 51; have _ := hb1; refine (HNM.out _).mono ?_; rintro e w2 ⟨rfl, hb2⟩) | (go_at_call 37; refine (HC.out _).mono ?_; rintro e w1 hp; rw [HR.out] at hp; obtain ⟨b, rfl, hb1, hn1⟩ := hp.some; clear hp; have HN := hid (freeNames_any hn1 (by omega)); clear hn1))
      obtain ⟨n, hnl⟩ : ∃ n, F.length = n := ⟨_, rfl⟩
      have HNL := hid hnl
      rw [hnl] at hfl2 HSV ⊢
      clear hnl
      have HB := hid ((hb1.trans (hb2.mono hb1.size)).trans (hb3.mono (by have := hb1.size; have := hb2.size; omega)))
      go_loop [7, 25] (fun v u => ∃ i : Nat, i ≤ n ∧ u = .int .i64 (i : Int) ∧ v = .int .i64 (cntB name.toList (F.take i) : Int)) (fun _ u => n - (intOf u).toNat)
      case atStart => exact ⟨0, Nat.zero_le _, rfl, rfl⟩
      case round =>
        obtain ⟨i, hi, rfl, rfl⟩ := hrel
        have hcl := cntB_le name.toList (F.take i)
        have hcl2 : (F.take i).length ≤ i := List.length_take_le _ _
        have hcl3 : cntB name.toList (F.take i) ≤ 1500 := by omega
        by_cases hlt : i < n
        · obtain ⟨x, hx⟩ : ∃ x, F[i]? = some x := ⟨_, List.getElem?_eq_getElem (by rw [HNL.out]; exact hlt)⟩
          obtain ⟨g, rfl, hc⟩ := HSV.out.2.2 i x hx
          have hst := cntB_snoc name.toList F i x hx
          clear hcl hcl2 hx
          cases e0 : x.toList == name.toList with
          | true =>
            rw [if_pos (by simpa using e0)] at hst
            have HST := hid hst
            clear hst
            go_wp2_with fail
            go_round
            case rel => exact ⟨i + 1, by omega, by go_num, by rw [HST.out]; go_num⟩
            case measure => simp [intOf]; omega
          | false =>
            rw [if_neg (by simpa using e0)] at hst
            have HST := hid hst
            clear hst
            go_wp2_with fail
            go_round
            case rel => exact ⟨i + 1, by omega, by go_num, by rw [HST.out]; rfl⟩
            case measure => simp [intOf]; omega
        · have HE := hid (show F.take i = F from List.take_of_length_le (by rw [HNL.out]; omega))
          clear hcl hcl2
          go_wp2_with fail
          go_ret
          exact ⟨ret_int (by rw [HS.out, HE.out]), HB.out⟩

set_option maxRecDepth 100000 in
set_option maxHeartbeats 2000000 in
theorem specTermUses_any (s name : ByteArray) (hs : s.size ≤ 2000000) (hn : name.size ≤ 2000000) (w : World) : Calls Tryd.prog 27 #[.string s, .string name] w fun e w' => e = .returned (.int .i64 (usesOf s name)) ∧ Below w.heap.size w w' := by
  have HC := hid (fun W => l2Term_any s hs W)
  have HNM := hid (fun W => l2Name_any name hn W)
  cases ht : termTree s with
  | none =>
    have HR := hid (usesOf_none (n := name) (termTree_none ht))
    have HT := hid ht
    clear ht
    go_enter Tryd.func27, Tryd.ntmps27
    go_wp2_with (go_at_call 35; refine (HC.out _).mono ?_; rintro e w1 hp; rw [HT.out] at hp; obtain ⟨pa, pp, pl, pc, rfl, hpl, hb1⟩ := hp.none; clear hp)
    go_ret
    exact ⟨ret_int HR.out.symm, hb1.alloc hb1.size _⟩
  | some t =>
    obtain ⟨hpt, hso, hsz, m, hm, htm⟩ := termTree_some ht
    have HT := hid ht
    cases hnb : nameB name.toList with
    | false =>
      have HR := hid (usesOf_no (s := s) hnb)
      rw [hnb] at HNM
      clear ht hpt hso hm htm hnb
      go_enter Tryd.func27, Tryd.ntmps27
      go_wp2_with (first | (go_at_call 39; have _ := hb1; refine (HNM.out _).mono ?_; rintro e w2 ⟨rfl, rfl⟩) | (go_at_call 35; refine (HC.out _).mono ?_; rintro e w1 hp; rw [HT.out] at hp; obtain ⟨pa, pp, pl, pc, rfl, hb1, htr⟩ := hp.some; clear hp htr))
      go_ret
      exact ⟨ret_int HR.out.symm, hb1.alloc hb1.size _⟩
    | true =>
      have HR := hid ((usesOf_some hm hnb).trans (by rw [tm_free t [] m htm, uses_free name.toList hnb t []]) : usesOf s name = ((if hasB [] name.toList = true then 0 else t.uses name.toList : Nat) : Int))
      have HR2 := hid (show usesOf s name = (t.uses name.toList : Int) by rw [HR.out]; rfl)
      have hwt := parse_wt hpt
      have hok := hid (parse_ok hpt)
      have HSO := hid hso
      rw [hnb] at HNM
      clear ht hpt hso hm htm hnb
      go_enter Tryd.func27, Tryd.ntmps27
      go_wp2_with (first | (go_at_call 50; have _ := hb1; refine (HD.out _ ((Kept.refl _).alloc (Nat.le_refl _) _) (by simp)).mono ?_; rintro e w3 ⟨rfl, hb3⟩) | (go_at_call 39; have _ := hb1; refine (HNM.out _).mono ?_; rintro e w2 ⟨rfl, rfl⟩) | (go_at_call 35; refine (HC.out _).mono ?_; rintro e w1 hp; rw [HT.out] at hp; obtain ⟨pa, pp, pl, pc, rfl, hb1, htr⟩ := hp.some; clear hp; have HD := hid (fun W hk hs => l2Uses_any name htr hwt hok.out HSO.out W hk hs); clear htr))
      go_ret
      have s1 := hb1.size
      exact ⟨ret_int HR2.out.symm, hb1.trans (((Below.refl _ _).alloc s1 _).trans (hb3.mono (by simp; omega)))⟩

set_option maxHeartbeats 1000000 in
theorem lawTermUses (s : ByteArray) (hs : s.size ≤ 9223372036854775807) (name : ByteArray) (hn : name.size ≤ 9223372036854775807) (w : World) : Calls Tryd.prog 9 #[.string s, .string name] w fun e w' => e = .returned (.bool true) ∧ Below w.heap.size w w' := by
  by_cases h : s.size ≤ 1048576
  · by_cases h' : name.size ≤ 1048576
    · have HA := hid (fun W => specTermUses_any s name (by omega) (by omega) W)
      have HB := hid (fun W => implTermUses_any s name (by omega) (by omega) W)
      have hq : (usesOf s name != usesOf s name) = false := by simp
      go_enter Tryd.func9, Tryd.ntmps9
      go_wp2_with (first | (go_at_call 27; refine (HA.out _).mono ?_; rintro e w1 ⟨rfl, hb1⟩) | (go_at_call 28; refine (HB.out _).mono ?_; rintro e w2 ⟨rfl, hb2⟩))
      go_ret
      exact ⟨rfl, hb1.trans (hb2.mono hb1.size)⟩
    · have h2 : 1048576 < name.size := by omega
      clear h'
      go_enter Tryd.func9, Tryd.ntmps9
      go_wp2
      go_ret
      exact ⟨rfl, Below.refl _ _⟩
  · have h2 : 1048576 < s.size := by omega
    clear h
    go_enter Tryd.func9, Tryd.ntmps9
    go_wp2
    go_ret
    exact ⟨rfl, Below.refl _ _⟩
end Go.Proofs.YtjennpiogdcngaaDoor
