/- Merged: UsesT. -/
import Derived.Test.YtnphopnhioogdaaDoorTUSBindsT
namespace Go.Proofs.YtnphopnhioogdaaDoor
open Go.RowKit

set_option maxRecDepth 100000 in
set_option maxHeartbeats 4000000 in
theorem l2Uses_go (s : ByteArray) {w0 : World} {S : Nat → Prop} {q : Tree} {qs : List Tree} {b cap n N : Nat} {A : Nat → Hd} (hn : qs.length = n) (hN : N = n + 1) (hwt : 1 + Tree.wts (q :: qs) ≤ 12000)
    (hA : ∀ i, i < n + 1 → w0.cell? ⟨b, i * 2, none⟩ = some (.string (A i).a)) (hB : ∀ i, i < n + 1 → w0.cell? ⟨b, i * 2 + 1, none⟩ = some (.slice (A i).p (A i).l (A i).c))
    (hps : ∀ i p, (q :: qs)[i]? = some p → TIn w0 S p (A i)) (hwf : Tree.srt (.node (q :: qs)) ≠ none)
    (ih : ∀ i p, (q :: qs)[i]? = some p → p.srt ≠ none → ∀ W, Kept w0 W → w0.heap.size ≤ W.heap.size → Calls Tryd.prog 52 #[.agg #[.string (A i).a, .slice (A i).p (A i).l (A i).c], .string s] W fun e w' => e = .returned (.int .i64 (p.uses s.toList : Int)) ∧ Below W.heap.size W w')
    (w : World) (hk : Kept w0 w) (hw : w0.heap.size ≤ w.heap.size) :
    Calls Tryd.prog 52 #[.agg #[.string ByteArray.empty, .slice (some ⟨b, 0, none⟩) N cap], .string s] w fun e w' => e = .returned (.int .i64 (Tree.uses s.toList (.node (q :: qs)) : Int)) ∧ Below w.heap.size w w' := by
  obtain ⟨h0, hsl, hft⟩ := wf_node hwf
  have h4 := shape_four q.text.toList
  obtain ⟨ht0, htk⟩ := part_texts hn hA hps
  have HFT := hid (fun i c p hc hp hk => fit1_wf (fits_get (shape q.text.toList) qs i c p hft hc hp) hk)
  have HI := hid (fun i c W h0 hc => l2Inner_any q b N cap i ByteArray.empty c W h0 (by omega) hc)
  have HBN := hid (fun i W hi h0 ht => l2Binds_any q qs b N n i cap ByteArray.empty W hN hn hi hsl h0 ht)
  have hxl : (xsOf (shape q.text.toList) qs).length ≤ 4 := by have := xsOf_length (shape q.text.toList) qs; omega
  have hle := usesL_le s.toList (xsOf (shape q.text.toList) qs) (shape q.text.toList) qs
  rw [Tree.wts] at hwt
  have HU := hid (show Tree.uses s.toList (.node (q :: qs)) = Tree.usesL s.toList (xsOf (shape q.text.toList) qs) (shape q.text.toList) qs by rw [Tree.uses])
  obtain ⟨cs, hcs⟩ : ∃ cs, shape q.text.toList = cs := ⟨_, rfl⟩
  rw [hcs] at HFT HI HBN HU hxl hle hsl h4
  obtain ⟨xs, hxs⟩ : ∃ xs, xsOf cs qs = xs := ⟨_, rfl⟩
  rw [hxs] at HBN HU hxl hle
  obtain ⟨R, hR⟩ : ∃ R, Tree.usesL s.toList xs cs qs = R := ⟨_, rfl⟩
  rw [hR] at HU hle
  have HR := hid hR
  have hn4 : n ≤ 4 := by omega
  have hN1 : n < N := by omega
  have hN2 : N ≤ n + 1 := by omega
  have hN5 : N ≤ 5 := by omega
  have hRle : R ≤ 12000 := by omega
  have HSL := hid (hsl.trans hn)
  have HN := hid hn
  have HT0 := hid ht0
  have HTK := hid htk
  have HA := hid hA
  have HB := hid hB
  have HIH := hid ih
  have HK := hid hk
  have hne : 1 ≤ N := by omega
  clear hn hN hwt hA hB hps hwf ih hk h0 hsl hft h4 ht0 htk hle hcs hxs hR
  go_enter Tryd.func52, Tryd.ntmps52
  go_wp2_with fail
  go_loopw [5, 6] (fun v u wr => ∃ (i m : Nat), i ≤ n ∧ m ≤ R ∧ u = .int .i64 ((i : Int) + 1) ∧ v = .int .i64 (m : Int) ∧ Below (w.heap.size + 1) (w.alloc (.cells #[.string ByteArray.empty, .slice (some ⟨b, 0, none⟩) N cap] 53)) wr ∧ Hid (m + Tree.usesL s.toList xs (cs.drop i) (qs.drop i) = R)) (fun _ u _ => N - (intOf u).toNat)
  case atStart => exact ⟨0, 0, Nat.zero_le _, Nat.zero_le _, rfl, rfl, Below.refl _ _, hid (by rw [List.drop_zero, List.drop_zero, Nat.zero_add]; exact HR.out)⟩
  case round =>
    obtain ⟨i, m, hi, hm, rfl, rfl, hbel, hL⟩ := hrel
    have hz := hbel.size
    simp at hz
    have kc2 := cells_of_pair (block_below (heap_new w (.cells #[.string ByteArray.empty, .slice (some ⟨b, 0, none⟩) N cap] 53) w.heap.size rfl) hbel (by omega))
    have kw : Kept w0 wr := (HK.out.alloc hw _).below hbel (by omega)
    have hwr : w0.heap.size ≤ wr.heap.size := by omega
    have HBEL := hid hbel
    by_cases hlt : i < n
    · obtain ⟨p, hp⟩ : ∃ p, qs[i]? = some p := ⟨_, List.getElem?_eq_getElem (by rw [HN.out]; exact hlt)⟩
      obtain ⟨c, hcc⟩ : ∃ c, cs[i]? = some c := ⟨_, List.getElem?_eq_getElem (by rw [HSL.out]; exact hlt)⟩
      have d2 : (i : Int) + 1 < (N : Int) := by omega
      have d2' : i + 1 < N := by omega
      have hst := usesL_step HSL.out hcc hp s.toList xs
      have CI := hid (fun W (hk : Kept wr W) => HI.out i c W (hk.cell (kw.cell HT0.out)) hcc)
      have CB := hid (fun W (hk : Kept wr W) => HBN.out i W hlt (hk.cell (kw.cell HT0.out)) (fun k p hp => hk.cell (kw.cell (HTK.out k p hp))))
      have ca := fun W (hk : Kept wr W) => hk.cell (kw.cell (HA.out (i + 1) (by omega)))
      have cb := fun W (hk : Kept wr W) => hk.cell (kw.cell (HB.out (i + 1) (by omega)))
      have CA := hid ca
      have CB2 := hid cb
      have kc3 := hid (fun W (hk : Kept wr W) => (show W.cell? ⟨w.heap.size, 0, none⟩ = some (.string ByteArray.empty) ∧ W.cell? ⟨w.heap.size, 1, none⟩ = some (.slice (some ⟨b, 0, none⟩) N cap) from ⟨hk.cell kc2.1, hk.cell kc2.2.1⟩))
      cases hK : c.isK with
      | false =>
        rw [hK] at CI
        have HL2 := hid (show m + Tree.usesL s.toList xs (cs.drop (i + 1)) (qs.drop (i + 1)) = R by have := hL.out; rw [hst, hK] at this; simpa using this)
        clear hst hL hp hcc kw hK ca cb
        go_wp2_with (go_at_call 69; refine (CI.out _ (Kept.refl _)).mono ?_; rintro e w1 ⟨rfl, hb1⟩)
        go_roundw
        case rel => exact ⟨i + 1, m, by omega, by omega, by go_num, rfl, HBEL.out.trans (hb1.mono (by omega)), HL2⟩
        case measure => simp [intOf]; omega
      | true =>
        rw [hK] at CI
        have hwp := HFT.out i c p hcc hp hK
        have HC := hid (fun W (hk : Kept wr W) (hs : wr.heap.size ≤ W.heap.size) => HIH.out (i + 1) p (by simpa using hp) hwp W (kw.trans hk hwr) (by omega))
        cases hh : hasB (bnd (decide (i + 1 = n)) xs) s.toList with
        | true =>
          have HL2 := hid (show m + Tree.usesL s.toList xs (cs.drop (i + 1)) (qs.drop (i + 1)) = R by have := hL.out; rw [hst, hK, hh] at this; simpa using this)
          have hbl : (bnd (decide (i + 1 = n)) xs).length ≤ 4 := by unfold bnd; split; exact hxl; simp
          have HH := hid hh
          obtain ⟨L, hLL⟩ : ∃ L, bnd (decide (i + 1 = n)) xs = L := ⟨_, rfl⟩
          rw [hLL] at CB HH hbl
          have HAS := hid (fun p1 c1 W hv => l2Has_any s L p1 L.length c1 W hv (by omega))
          rw [HH.out] at HAS
          clear hst hL hp hcc kw hK hh hLL ca cb
          go_wp2_with (first | (go_at_call 68; have _ := hb2; refine (HAS.out _ _ _ hsv).mono ?_; rintro e w3 ⟨rfl, rfl⟩) | (go_at_call 70; have _ := hb1; refine (CB.out _ (Kept.of_below hb1 (Nat.le_refl _))).mono ?_; rintro e w2 hp2; obtain ⟨q2, c2, rfl, hsv, hb2⟩ := hp2.sv; clear hp2) | (go_at_call 69; refine (CI.out _ (Kept.refl _)).mono ?_; rintro e w1 ⟨rfl, hb1⟩; have k1 := kc3.out _ (Kept.of_below hb1 (Nat.le_refl _))))
          go_roundw
          case rel => exact ⟨i + 1, m, by omega, by omega, by go_num, rfl, HBEL.out.trans ((hb1.trans (hb2.mono hb1.size)).mono (by omega)), HL2⟩
          case measure => simp [intOf]; omega
        | false =>
          have hrest : m + (p.uses s.toList + Tree.usesL s.toList xs (cs.drop (i + 1)) (qs.drop (i + 1))) = R := by have := hL.out; rw [hst, hK, hh] at this; simpa using this
          have hmR : m + p.uses s.toList ≤ R := by omega
          have HL2 := hid (show (m + p.uses s.toList) + Tree.usesL s.toList xs (cs.drop (i + 1)) (qs.drop (i + 1)) = R by omega)
          have hbl : (bnd (decide (i + 1 = n)) xs).length ≤ 4 := by unfold bnd; split; exact hxl; simp
          have HH := hid hh
          obtain ⟨L, hLL⟩ : ∃ L, bnd (decide (i + 1 = n)) xs = L := ⟨_, rfl⟩
          rw [hLL] at CB HH hbl
          obtain ⟨U, hU⟩ : ∃ U, p.uses s.toList = U := ⟨_, rfl⟩
          rw [hU] at HC hmR HL2
          have HAS := hid (fun p1 c1 W hv => l2Has_any s L p1 L.length c1 W hv (by omega))
          rw [HH.out] at HAS
          clear hst hL hp hcc kw hK hh hLL hrest hU hwp ca cb
          go_wp2_with (first | (go_at_call 52; have _ := hb2; refine (HC.out _ (Kept.of_below hb12 (Nat.le_refl _)) (by have := hb1.size; have := hb2.size; omega)).mono ?_; rintro e w4 ⟨rfl, hb4⟩) | (go_at_call 68; have _ := hb2; refine (HAS.out _ _ _ hsv).mono ?_; rintro e w3 ⟨rfl, rfl⟩) | (go_at_call 70; have _ := hb1; refine (CB.out _ (Kept.of_below hb1 (Nat.le_refl _))).mono ?_; rintro e w2 hp2; obtain ⟨q2, c2, rfl, hsv, hb2⟩ := hp2.sv; clear hp2; have hb12 := hb1.trans (hb2.mono hb1.size); have k2 := kc3.out _ (Kept.of_below hb12 (Nat.le_refl _)); have ca2 := CA.out _ (Kept.of_below hb12 (Nat.le_refl _)); have cb2 := CB2.out _ (Kept.of_below hb12 (Nat.le_refl _))) | (go_at_call 69; refine (CI.out _ (Kept.refl _)).mono ?_; rintro e w1 ⟨rfl, hb1⟩; have k1 := kc3.out _ (Kept.of_below hb1 (Nat.le_refl _))))
          go_roundw
          case rel => exact ⟨i + 1, m + U, by omega, by omega, by go_num, by go_num, HBEL.out.trans ((hb12.trans (hb4.mono (by have := hb1.size; have := hb2.size; omega))).mono (by omega)), HL2⟩
          case measure => simp [intOf]; omega
    · have he : m = R := by
        have := hL.out
        rw [List.drop_of_length_le (l := cs) (by rw [HSL.out]; omega)] at this
        simpa [Tree.usesL] using this
      have HE := hid he
      clear he hL kw
      go_wp2_with fail
      go_ret
      exact ⟨ret_int (by rw [HU.out, HE.out]), ((Below.refl w.heap.size w).alloc (Nat.le_refl _) _).trans (HBEL.out.mono (by omega))⟩

/-- HOW OFTEN A NAME STANDS FREE, BY THE MODEL. -/
theorem l2Uses_any (s : ByteArray) {w0 : World} {S : Nat → Prop} {t : Tree} {h : Hd} (ht : TIn w0 S t h) : t.wt ≤ 12000 → t.ok → t.srt ≠ none → ∀ w, Kept w0 w → w0.heap.size ≤ w.heap.size →
    Calls Tryd.prog 52 #[.agg #[.string h.a, .slice h.p h.l h.c], .string s] w fun e w' => e = .returned (.int .i64 (t.uses s.toList : Int)) ∧ Below w.heap.size w w' := by
  induction ht with
  | atom a hne hm =>
    intro _ _ _ w _ _
    have he := isEmpty_not a hne
    cases e0 : a.toList == s.toList with
    | true =>
      have HQ := hid (show (Tree.atom a).uses s.toList = 1 by rw [Tree.uses, if_pos (by simpa using e0)])
      go_enter Tryd.func52, Tryd.ntmps52
      go_wp2_with fail
      go_ret
      exact ⟨ret_int (by rw [HQ.out]; rfl), (Below.refl _ _).alloc (Nat.le_refl _) _⟩
    | false =>
      have HQ := hid (show (Tree.atom a).uses s.toList = 0 by rw [Tree.uses, if_neg (by simpa using e0)])
      go_enter Tryd.func52, Tryd.ntmps52
      go_wp2_with fail
      go_ret
      exact ⟨ret_int (by rw [HQ.out]; rfl), (Below.refl _ _).alloc (Nat.le_refl _) _⟩
  | node ps b cap A hp hl hc hS hA hB hps ih =>
    intro hwt hok hwf w hk hw
    obtain ⟨q, qs, rfl⟩ : ∃ q qs, ps = q :: qs := by cases ps with | nil => simp at hp | cons q qs => exact ⟨q, qs, rfl⟩
    rw [Tree.wt] at hwt
    rw [Tree.ok] at hok
    simp only [List.length_cons] at hl hA hB
    exact l2Uses_go s (S := S) (n := qs.length) rfl rfl hwt hA hB hps hwf (fun i p hp hw => ih i p hp (by have := wt_part (q :: qs) i p hp; omega) (oks_part _ hok i p hp) hw) w hk hw
end Go.Proofs.YtnphopnhioogdaaDoor
