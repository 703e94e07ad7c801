/- Merged: FreeN. -/
import Derived.Test.YtnphopnhioogdaaDoorTU18
import Derived.Test.YtnphopnhioogdaaDoorTUSUsesT
namespace Go.Proofs.YtnphopnhioogdaaDoor
open Go.RowKit

/-- What TermUses answers. -/
def usesOf (s name : ByteArray) : Int := match readTm s with
  | some m => if nameB name.toList = true then (cntB name.toList m.free : Int) else -1
  | none => -1
theorem usesOf_none {s n : ByteArray} (h : readTm s = none) : usesOf s n = -1 := by rw [usesOf, h]
theorem usesOf_no {s n : ByteArray} (h : nameB n.toList = false) : usesOf s n = -1 := by
  rw [usesOf]
  cases readTm s with
  | none => rfl
  | some m => simp only; rw [if_neg (by rw [h]; simp)]
theorem usesOf_some {s n : ByteArray} {m : Tm} (h : readTm s = some m) (hn : nameB n.toList = true) : usesOf s n = (cntB n.toList m.free : Int) := by rw [usesOf, h]; simp only; rw [if_pos hn]
theorem cntB_snoc (s : List UInt8) (l : List ByteArray) (i : Nat) (x : ByteArray) (h : l[i]? = some x) : cntB s (l.take (i + 1)) = cntB s (l.take i) + (if x.toList = s then 1 else 0) := by
  rw [List.take_add_one, h, Option.toList_some, cntB_append]
  congr 1
  by_cases e : x.toList = s <;> simp [cntB, e]
theorem cntB_le (s : List UInt8) (l : List ByteArray) : cntB s l ≤ l.length := List.countP_le_length

set_option maxRecDepth 100000 in
set_option maxHeartbeats 2000000 in
theorem implTermUses_any (s name : ByteArray) (hs : s.size ≤ 400000000) (hn : name.size ≤ 400000000) (w : World) : Calls Tryd.prog 30 #[.string s, .string name] w fun e w' => e = .returned (.int .i64 (usesOf s name)) ∧ Below w.heap.size w w' := by
  have HC := hid (fun W => readTerm_any s hs W)
  have HNM := hid (fun W => isName_any name hn W)
  cases hr : readTm s with
  | none =>
    have HR := hid hr
    have HS := hid (usesOf_none (n := name) hr)
    clear hr
    go_enter Tryd.func30, Tryd.ntmps30
    go_wp2_with (go_at_call 43; refine (HC.out _).mono ?_; rintro e w1 hp; rw [HR.out] at hp; obtain ⟨rfl, hb1⟩ := hp.none; clear hp)
    go_ret
    exact ⟨ret_int HS.out.symm, hb1⟩
  | some m =>
    have HR := hid hr
    obtain ⟨t, _, _, _, hms⟩ := readTm_inv hr
    cases hnb : nameB name.toList with
    | false =>
      have HS := hid (usesOf_no (s := s) hnb)
      rw [hnb] at HNM
      clear hr hnb
      go_enter Tryd.func30, Tryd.ntmps30
      go_wp2_with (first | (go_at_call 53; have _ := hb1; refine (HNM.out _).mono ?_; rintro e w2 ⟨rfl, hb2⟩) | (go_at_call 43; refine (HC.out _).mono ?_; rintro e w1 hp; rw [HR.out] at hp; obtain ⟨b, rfl, hb1, hn1⟩ := hp.some; clear hp hn1))
      go_ret
      exact ⟨ret_int HS.out.symm, hb1.trans (hb2.mono hb1.size)⟩
    | true =>
      have HS := hid (usesOf_some hr hnb)
      rw [hnb] at HNM
      have hfl := free_length m
      obtain ⟨F, hF⟩ : ∃ F, m.free = F := ⟨_, rfl⟩
      rw [hF] at HS hfl
      have hfl2 : F.length ≤ 1500 := by omega
      have HFF := hid hF
      clear hr hnb hF hfl
      go_enter Tryd.func30, Tryd.ntmps30
      go_wp2_with (first | (go_at_call 47; have _ := hb2; refine (HN.out _ (Kept.of_below hb2 (Nat.le_refl _)) hb2.size).mono ?_; rintro e w3 hp; rw [HFF.out] at hp; obtain ⟨q3, c3, rfl, hsv, hb3⟩ := hp.sv; have HSV := hid hsv; clear hp hsv) | (go_at_call 53; have _ := hb1; refine (HNM.out _).mono ?_; rintro e w2 ⟨rfl, hb2⟩) | (go_at_call 43; refine (HC.out _).mono ?_; rintro e w1 hp; rw [HR.out] at hp; obtain ⟨b, rfl, hb1, hn1⟩ := hp.some; clear hp; have HN := hid (freeNames_any hn1 (by omega)); clear hn1))
      obtain ⟨n, hnl⟩ : ∃ n, F.length = n := ⟨_, rfl⟩
      have HNL := hid hnl
      rw [hnl] at hfl2 HSV ⊢
      clear hnl
      have HB := hid ((hb1.trans (hb2.mono hb1.size)).trans (hb3.mono (by have := hb1.size; have := hb2.size; omega)))
      go_loop [7, 25] (fun v u => ∃ i : Nat, i ≤ n ∧ u = .int .i64 (i : Int) ∧ v = .int .i64 (cntB name.toList (F.take i) : Int)) (fun _ u => n - (intOf u).toNat)
      case atStart => exact ⟨0, Nat.zero_le _, rfl, rfl⟩
      case round =>
        obtain ⟨i, hi, rfl, rfl⟩ := hrel
        have hcl := cntB_le name.toList (F.take i)
        have hcl2 : (F.take i).length ≤ i := List.length_take_le _ _
        have hcl3 : cntB name.toList (F.take i) ≤ 1500 := by omega
        by_cases hlt : i < n
        · obtain ⟨x, hx⟩ : ∃ x, F[i]? = some x := ⟨_, List.getElem?_eq_getElem (by rw [HNL.out]; exact hlt)⟩
          obtain ⟨g, rfl, hc⟩ := HSV.out.2.2 i x hx
          have hst := cntB_snoc name.toList F i x hx
          clear hcl hcl2 hx
          cases e0 : x.toList == name.toList with
          | true =>
            rw [if_pos (by simpa using e0)] at hst
            have HST := hid hst
            clear hst
            go_wp2_with fail
            go_round
            case rel => exact ⟨i + 1, by omega, by go_num, by rw [HST.out]; go_num⟩
            case measure => simp [intOf]; omega
          | false =>
            rw [if_neg (by simpa using e0)] at hst
            have HST := hid hst
            clear hst
            go_wp2_with fail
            go_round
            case rel => exact ⟨i + 1, by omega, by go_num, by rw [HST.out]; rfl⟩
            case measure => simp [intOf]; omega
        · have HE := hid (show F.take i = F from List.take_of_length_le (by rw [HNL.out]; omega))
          clear hcl hcl2
          go_wp2_with fail
          go_ret
          exact ⟨ret_int (by rw [HS.out, HE.out]), HB.out⟩

set_option maxRecDepth 100000 in
set_option maxHeartbeats 2000000 in
theorem specTermUses_any (s name : ByteArray) (hs : s.size ≤ 400000000) (hn : name.size ≤ 400000000) (w : World) : Calls Tryd.prog 29 #[.string s, .string name] w fun e w' => e = .returned (.int .i64 (usesOf s name)) ∧ Below w.heap.size w w' := by
  have HC := hid (fun W => l2Term_any s hs W)
  have HNM := hid (fun W => l2Name_any name hn W)
  cases ht : termTree s with
  | none =>
    have HR := hid (usesOf_none (n := name) (termTree_none ht))
    have HT := hid ht
    clear ht
    go_enter Tryd.func29, Tryd.ntmps29
    go_wp2_with (go_at_call 41; refine (HC.out _).mono ?_; rintro e w1 hp; rw [HT.out] at hp; obtain ⟨pa, pp, pl, pc, rfl, hpl, hb1⟩ := hp.none; clear hp)
    go_ret
    exact ⟨ret_int HR.out.symm, hb1.alloc hb1.size _⟩
  | some t =>
    obtain ⟨hpt, hso, hsz, m, hm, htm⟩ := termTree_some ht
    have HT := hid ht
    cases hnb : nameB name.toList with
    | false =>
      have HR := hid (usesOf_no (s := s) hnb)
      rw [hnb] at HNM
      clear ht hpt hso hm htm hnb
      go_enter Tryd.func29, Tryd.ntmps29
      go_wp2_with (first | (go_at_call 37; have _ := hb1; refine (HNM.out _).mono ?_; rintro e w2 ⟨rfl, rfl⟩) | (go_at_call 41; refine (HC.out _).mono ?_; rintro e w1 hp; rw [HT.out] at hp; obtain ⟨pa, pp, pl, pc, rfl, hb1, htr⟩ := hp.some; clear hp htr))
      go_ret
      exact ⟨ret_int HR.out.symm, hb1.alloc hb1.size _⟩
    | true =>
      have HR := hid ((usesOf_some hm hnb).trans (by rw [tm_free t [] m htm, uses_free name.toList hnb t []]) : usesOf s name = ((if hasB [] name.toList = true then 0 else t.uses name.toList : Nat) : Int))
      have HR2 := hid (show usesOf s name = (t.uses name.toList : Int) by rw [HR.out]; rfl)
      have hwt := parse_wt hpt
      have hok := hid (parse_ok hpt)
      have HSO := hid hso
      rw [hnb] at HNM
      clear ht hpt hso hm htm hnb
      go_enter Tryd.func29, Tryd.ntmps29
      go_wp2_with (first | (go_at_call 52; have _ := hb1; refine (HD.out _ ((Kept.refl _).alloc (Nat.le_refl _) _) (by simp)).mono ?_; rintro e w3 ⟨rfl, hb3⟩) | (go_at_call 37; have _ := hb1; refine (HNM.out _).mono ?_; rintro e w2 ⟨rfl, rfl⟩) | (go_at_call 41; refine (HC.out _).mono ?_; rintro e w1 hp; rw [HT.out] at hp; obtain ⟨pa, pp, pl, pc, rfl, hb1, htr⟩ := hp.some; clear hp; have HD := hid (fun W hk hs => l2Uses_any name htr hwt hok.out HSO.out W hk hs); clear htr))
      go_ret
      have s1 := hb1.size
      exact ⟨ret_int HR2.out.symm, hb1.trans (((Below.refl _ _).alloc s1 _).trans (hb3.mono (by simp; omega)))⟩

set_option maxHeartbeats 1000000 in
theorem lawTermUses (s : ByteArray) (hs : s.size ≤ 9223372036854775807) (name : ByteArray) (hn : name.size ≤ 9223372036854775807) (w : World) : Calls Tryd.prog 9 #[.string s, .string name] w fun e w' => e = .returned (.bool true) ∧ Below w.heap.size w w' := by
  by_cases h : s.size ≤ 1048576
  · by_cases h' : name.size ≤ 1048576
    · have HA := hid (fun W => specTermUses_any s name (by omega) (by omega) W)
      have HB := hid (fun W => implTermUses_any s name (by omega) (by omega) W)
      have hq : (usesOf s name != usesOf s name) = false := by simp
      go_enter Tryd.func9, Tryd.ntmps9
      go_wp2_with (first | (go_at_call 29; refine (HA.out _).mono ?_; rintro e w1 ⟨rfl, hb1⟩) | (go_at_call 30; refine (HB.out _).mono ?_; rintro e w2 ⟨rfl, hb2⟩))
      go_ret
      exact ⟨rfl, hb1.trans (hb2.mono hb1.size)⟩
    · have h2 : 1048576 < name.size := by omega
      clear h'
      go_enter Tryd.func9, Tryd.ntmps9
      go_wp2
      go_ret
      exact ⟨rfl, Below.refl _ _⟩
  · have h2 : 1048576 < s.size := by omega
    clear h
    go_enter Tryd.func9, Tryd.ntmps9
    go_wp2
    go_ret
    exact ⟨rfl, Below.refl _ _⟩
end Go.Proofs.YtnphopnhioogdaaDoor
