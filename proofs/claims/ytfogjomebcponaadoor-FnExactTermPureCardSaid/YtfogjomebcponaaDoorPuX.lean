/- Merged: SizeP, PureI, SpecU0, PartT, PureT. -/
import Derived.Test.YtfogjomebcponaaDoorSizeP0
import Derived.Test.YtfogjomebcponaaDoorSortT0
import Derived.Test.YtfogjomebcponaaDoorTermU0
import Derived.Test.YtfogjomebcponaaDoorHasS
import Derived.Test.YtfogjomebcponaaDoorTermU
import Derived.Test.YtfogjomebcponaaDoorConcat
namespace Go.Proofs.YtfogjomebcponaaDoor
open Go.RowKit

theorem termTree_none {s : ByteArray} (h : termTree s = none) : readTm s = none := by
  have h1 := termTree_read s
  rw [h] at h1
  cases hr : readTm s with
  | none => rfl
  | some m => rw [hr] at h1; simp at h1
theorem termTree_some {s : ByteArray} {t : Tree} (h : termTree s = some t) : parse s = some t ∧ t.srt ≠ none ∧ t.size ≤ 1500 ∧ ∃ m, readTm s = some m ∧ t.tm [] = some m := by
  have h1 := termTree_read s
  rw [h] at h1
  cases hr : readTm s with
  | none => rw [hr] at h1; simp at h1
  | some m =>
    obtain ⟨u, hp, hm, hs, _⟩ := readTm_inv hr
    unfold termTree at h
    rw [hp] at h; simp only at h
    split at h
    · rename_i hc; simp at h; subst h; exact ⟨hp, hc.1, hs, m, rfl, hm⟩
    · simp at h


theorem pures_at {ks : List Tm} {i : Nat} {k : Tm} (h : ks[i]? = some k) : Tm.pures (ks.drop i) = (k.pure && Tm.pures (ks.drop (i + 1))) := by
  rw [drop_at h, Tm.pures]
set_option maxRecDepth 100000 in
set_option maxHeartbeats 2000000 in
/-- THE PROGRAM's ANSWER WHETHER A TERM HAS NO EFFECTS. -/
theorem isPure_any {w0 : World} {S : Nat → Prop} {m : Tm} {b : Nat} (hn : NIn w0 S m b) : m.size ≤ 100000 → ∀ w, Kept w0 w →
    Calls Tryd.prog 17 #[.pointer (some ⟨b, 0, none⟩)] w fun e w' => e = .returned (.bool m.pure) ∧ w = w' := by
  induction hn with
  | mk hd a d bs ty ks b bp bl bc kp kl kc A hS hb hbl hkl hbn hbv hkv hks ih =>
    intro hsz w hk
    rw [Tm.size] at hsz
    have hlt0 := lt_of_block hb
    have c := cells_of_six ((hk b hlt0).trans hb)
    have c0 := c.1
    have c5 := c.2.2.2.2.2.1
    have hkl3 : kl ≤ 100000 := by have := tmsizes_length ks; omega
    have HSZ := hid (show ∀ (i : Nat) (k : Tm), ks[i]? = some k → k.size ≤ 100000 from fun i k h => by have := tmsizes_snoc ks i k h; have := tmsizes_take ks (i + 1); omega)
    have HKL := hid hkl
    have HKV := hid hkv
    have HIH := hid ih
    have HK := hid hk
    clear ih hk hb hbn hbv hS c hkl hkv hks hbl hsz
    have hpm : (Tm.mk hd a d bs ty ks).pure = (pureHd hd.toList && Tm.pures ks) := by rw [Tm.pure]
    cases e0 : hd.toList == [103, 101, 116] with
    | true =>
      have HP := hid (show (Tm.mk hd a d bs ty ks).pure = false by rw [hpm, show hd.toList = [103, 101, 116] by simpa using e0]; rfl)
      clear hpm
      go_enter Tryd.func17, Tryd.ntmps17
      go_wp2_with fail
      go_ret
      exact ⟨ret_bool HP.out.symm, rfl⟩
    | false =>
    cases e1 : hd.toList == [112, 117, 116] with
    | true =>
      have HP := hid (show (Tm.mk hd a d bs ty ks).pure = false by rw [hpm, show hd.toList = [112, 117, 116] by simpa using e1]; rfl)
      clear hpm
      go_enter Tryd.func17, Tryd.ntmps17
      go_wp2_with fail
      go_ret
      exact ⟨ret_bool HP.out.symm, rfl⟩
    | false =>
    cases e2 : hd.toList == [102, 97, 105, 108] with
    | true =>
      have HP := hid (show (Tm.mk hd a d bs ty ks).pure = false by rw [hpm, show hd.toList = [102, 97, 105, 108] by simpa using e2]; rfl)
      clear hpm
      go_enter Tryd.func17, Tryd.ntmps17
      go_wp2_with fail
      go_ret
      exact ⟨ret_bool HP.out.symm, rfl⟩
    | false =>
    cases e3 : hd.toList == [116, 114, 121] with
    | true =>
      have HP := hid (show (Tm.mk hd a d bs ty ks).pure = false by rw [hpm, show hd.toList = [116, 114, 121] by simpa using e3]; rfl)
      clear hpm
      go_enter Tryd.func17, Tryd.ntmps17
      go_wp2_with fail
      go_ret
      exact ⟨ret_bool HP.out.symm, rfl⟩
    | false =>
      have hph : pureHd hd.toList = true := by
        simp only [beq_eq_false_iff_ne, ne_eq] at e0 e1 e2 e3
        unfold pureHd
        simp [e0, e1, e2, e3]
      have HP := hid (show (Tm.mk hd a d bs ty ks).pure = Tm.pures ks by rw [hpm, hph, Bool.true_and])
      clear hpm hph
      go_enter Tryd.func17, Tryd.ntmps17
      go_wp2_with fail
      go_loop [19] (fun u => ∃ i : Nat, i ≤ kl ∧ u = .int .i64 (i : Int) ∧ Hid (Tm.pures ks = Tm.pures (ks.drop i))) (fun u => kl - (intOf u).toNat)
      case atStart => exact ⟨0, Nat.zero_le _, rfl, hid (by rw [List.drop_zero])⟩
      case round =>
        obtain ⟨i, hi, rfl, hL⟩ := hrel
        by_cases hlt : i < kl
        · obtain ⟨k, hki⟩ : ∃ k, ks[i]? = some k := ⟨_, List.getElem?_eq_getElem (by rw [HKL.out]; exact hlt)⟩
          obtain ⟨g, rfl, _, hc⟩ := HKV.out i _ (ptrs_get A hlt)
          have hc' := HK.out.cell hc
          have HC := hid (HIH.out i k hki (HSZ.out i k hki) w HK.out)
          have hst := pures_at hki
          clear hc hki c0
          cases hkp : k.pure with
          | true =>
            rw [hkp] at HC hst
            have HL2 := hid (hL.out.trans (hst.trans (Bool.true_and _)))
            clear hst hL hkp
            go_wp2_with (go_at_call 17; refine HC.out.mono ?_; rintro e w2 ⟨rfl, rfl⟩)
            go_round
            case rel => exact ⟨i + 1, by omega, by go_num, HL2⟩
            case measure => simp [intOf]; omega
          | false =>
            rw [hkp] at HC hst
            have HL2 := hid (hL.out.trans (hst.trans (Bool.false_and _)))
            clear hst hL hkp
            go_wp2_with (go_at_call 17; refine HC.out.mono ?_; rintro e w2 ⟨rfl, rfl⟩)
            go_ret
            exact ⟨ret_bool (by rw [HP.out, HL2.out]), rfl⟩
        · have HE := hid (show Tm.pures ks = true by rw [hL.out, List.drop_of_length_le (by rw [HKL.out]; omega)]; rfl)
          clear hL
          go_wp2_with fail
          go_ret
          exact ⟨ret_bool (by rw [HP.out, HE.out]), rfl⟩

/-- What TermPure answers. -/
def pureOf (s : ByteArray) : Bool := match readTm s with
  | some m => m.pure
  | none => false
theorem pureOf_none {s : ByteArray} (h : readTm s = none) : pureOf s = false := by rw [pureOf, h]
theorem pureOf_some {s : ByteArray} {m : Tm} (h : readTm s = some m) : pureOf s = m.pure := by rw [pureOf, h]

set_option maxRecDepth 100000 in
set_option maxHeartbeats 1000000 in
theorem implTermPure_any (s : ByteArray) (hs : s.size ≤ 400000000) (w : World) : Calls Tryd.prog 8 #[.string s] w fun e w' => e = .returned (.bool (pureOf s)) ∧ Below w.heap.size w w' := by
  have HC := hid (fun W => readTerm_any s hs W)
  cases hr : readTm s with
  | none =>
    have HR := hid hr
    have HS := hid (pureOf_none hr)
    clear hr
    go_enter Tryd.func8, Tryd.ntmps8
    go_wp2_with (go_at_call 16; refine (HC.out _).mono ?_; rintro e w1 hp; rw [HR.out] at hp; obtain ⟨rfl, hb1⟩ := hp.none; clear hp)
    go_ret
    exact ⟨ret_bool HS.out.symm, hb1⟩
  | some m =>
    have HR := hid hr
    obtain ⟨t, _, _, _, hms⟩ := readTm_inv hr
    have HS := hid (pureOf_some hr)
    obtain ⟨F, hF⟩ : ∃ F, m.pure = F := ⟨_, rfl⟩
    rw [hF] at HS
    have HFF := hid hF
    clear hr hF
    go_enter Tryd.func8, Tryd.ntmps8
    go_wp2_with (first | (go_at_call 17; have _ := hb1; refine (HN.out _ (Kept.refl _)).mono ?_; rintro e w3 ⟨he3, rfl⟩; rw [HFF.out] at he3; subst he3) | (go_at_call 16; refine (HC.out _).mono ?_; rintro e w1 hp; rw [HR.out] at hp; obtain ⟨b, rfl, hb1, hn1⟩ := hp.some; clear hp; have HN := hid (isPure_any hn1 (by omega)); clear hn1))
    go_ret
    exact ⟨ret_bool HS.out.symm, hb1⟩



set_option maxRecDepth 100000 in
set_option maxHeartbeats 1000000 in
theorem l2Inner_any (q : Tree) (b n cap i : Nat) (a : ByteArray) (c : Sg) (w : World) (hc0 : w.cell? ⟨b, 0, none⟩ = some (.string q.text)) (hn : 0 < n) (hcs : (shape q.text.toList)[i]? = some c) :
    Calls Tryd.prog 29 #[.agg #[.string a, .slice (some ⟨b, 0, none⟩) n cap], .int .i64 ((i : Int) + 1)] w fun e w' => e = .returned (.bool c.isK) ∧ Below w.heap.size w w' := by
  have HF := hid (fun W => l2Shape_any q.text W)
  have hi4 : i < 4 := by have := (List.getElem?_eq_some_iff.1 hcs).1; have := shape_four q.text.toList; omega
  have hFs := loS_size (shape q.text.toList)
  have HFG := hid (fun hi => loS_get (shape q.text.toList) i c hcs hi)
  have hil := (List.getElem?_eq_some_iff.1 hcs).1
  obtain ⟨F, hF⟩ : ∃ F, loS (shape q.text.toList) = F := ⟨_, rfl⟩
  rw [hF] at HF hFs HFG
  have hif : i < F.size := by omega
  have hfc := HFG.out hif
  have kc : ∀ o, (w.alloc o).cell? ⟨b, 0, none⟩ = some (.string q.text) := fun o => (World.cell?_of_block (w := w) (heap_alloc_old w o (World.block_lt_of_cell? w _ hc0))).trans hc0
  have f3 : F.size ≤ 4 := by have := shape_four q.text.toList; omega
  clear hF hFs HFG hil hcs hc0
  cases c with
  | V =>
    have e1 : F[i] = 118 := hfc
    clear hfc
    go_enter Tryd.func29, Tryd.ntmps29
    go_wp2_with (go_at_call 43; refine (HF.out _).mono ?_; rintro e w2 ⟨rfl, rfl⟩)
    go_ret
    exact ⟨ret_bool rfl, (Below.refl _ _).alloc (Nat.le_refl _) _⟩
  | M =>
    have e1 : F[i] = 109 := hfc
    clear hfc
    go_enter Tryd.func29, Tryd.ntmps29
    go_wp2_with (go_at_call 43; refine (HF.out _).mono ?_; rintro e w2 ⟨rfl, rfl⟩)
    go_ret
    exact ⟨ret_bool rfl, (Below.refl _ _).alloc (Nat.le_refl _) _⟩
  | X =>
    have e1 : F[i] = 120 := hfc
    clear hfc
    go_enter Tryd.func29, Tryd.ntmps29
    go_wp2_with (go_at_call 43; refine (HF.out _).mono ?_; rintro e w2 ⟨rfl, rfl⟩)
    go_ret
    exact ⟨ret_bool rfl, (Below.refl _ _).alloc (Nat.le_refl _) _⟩
  | A =>
    have e1 : F[i] = 97 := hfc
    clear hfc
    go_enter Tryd.func29, Tryd.ntmps29
    go_wp2_with (go_at_call 43; refine (HF.out _).mono ?_; rintro e w2 ⟨rfl, rfl⟩)
    go_ret
    exact ⟨ret_bool rfl, (Below.refl _ _).alloc (Nat.le_refl _) _⟩
  | C =>
    have e1 : F[i] = 99 := hfc
    clear hfc
    go_enter Tryd.func29, Tryd.ntmps29
    go_wp2_with (go_at_call 43; refine (HF.out _).mono ?_; rintro e w2 ⟨rfl, rfl⟩)
    go_ret
    exact ⟨ret_bool rfl, (Below.refl _ _).alloc (Nat.le_refl _) _⟩


/-- The texts of the parts of a tree in memory. -/
theorem part_texts {w0 : World} {S : Nat → Prop} {q : Tree} {qs : List Tree} {b n : Nat} {A : Nat → Hd} (hn : qs.length = n) (hA : ∀ i, i < n + 1 → w0.cell? ⟨b, i * 2, none⟩ = some (.string (A i).a)) (hps : ∀ i p, (q :: qs)[i]? = some p → TIn w0 S p (A i)) :
    w0.cell? ⟨b, 0, none⟩ = some (.string q.text) ∧ ∀ k p, qs[k]? = some p → w0.cell? ⟨b, (k + 1) * 2, none⟩ = some (.string p.text) := by
  refine ⟨?_, fun k p hp => ?_⟩
  · have := hA 0 (by omega)
    rw [(hps 0 q rfl).text] at this; simpa using this
  · have hk := (List.getElem?_eq_some_iff.1 hp).1
    have := hA (k + 1) (by omega)
    rw [(hps (k + 1) p (by simpa using hp)).text] at this; exact this


theorem tpures_at {cs : List Sg} {qs : List Tree} {i : Nat} {c : Sg} {p : Tree} (hc : cs[i]? = some c) (hp : qs[i]? = some p) :
    Tree.pures (cs.drop i) (qs.drop i) = ((!c.isK || p.pure) && Tree.pures (cs.drop (i + 1)) (qs.drop (i + 1))) := by
  rw [drop_at hc, drop_at hp, Tree.pures]

/-- The words of effects. -/
def effW : List ByteArray := [⟨#[103, 101, 116]⟩, ⟨#[112, 117, 116]⟩, ⟨#[102, 97, 105, 108]⟩, ⟨#[116, 114, 121]⟩]
theorem hasB_eff (h : List UInt8) : hasB effW h = !pureHd h := by
  unfold effW pureHd
  rw [hasB_cons, hasB_cons, hasB_cons, hasB_cons]
  simp only [Go.ByteArray.toList_eq]
  have e : hasB [] h = false := rfl
  have q : ∀ l : List UInt8, (l == h) = decide (h = l) := fun l => by
    rw [Bool.eq_iff_iff, beq_iff_eq, decide_eq_true_eq]; exact ⟨Eq.symm, Eq.symm⟩
  rw [e, Bool.or_false, Bool.not_not, q, q, q, q, Bool.or_assoc, Bool.or_assoc]
theorem sv_eff (w : World) : SV (w.alloc (.cells #[.string ⟨#[103, 101, 116]⟩, .string ⟨#[112, 117, 116]⟩, .string ⟨#[102, 97, 105, 108]⟩, .string ⟨#[116, 114, 121]⟩] 9)) (some ⟨w.heap.size, 0, none⟩) 4 4 effW := by
  refine ⟨rfl, fun e => by simp at e, fun i s h => ⟨w.heap.size, rfl, ?_⟩⟩
  have hh := heap_alloc_new w (.cells #[.string ⟨#[103, 101, 116]⟩, .string ⟨#[112, 117, 116]⟩, .string ⟨#[102, 97, 105, 108]⟩, .string ⟨#[116, 114, 121]⟩] 9)
  unfold World.cell?
  rw [hh]
  match i, h with
  | 0, h => simp [effW] at h; subst h; rfl
  | 1, h => simp [effW] at h; subst h; rfl
  | 2, h => simp [effW] at h; subst h; rfl
  | 3, h => simp [effW] at h; subst h; rfl

set_option maxRecDepth 100000 in
set_option maxHeartbeats 4000000 in
theorem l3Pure_go {w0 : World} {S : Nat → Prop} {q : Tree} {qs : List Tree} {b cap n N : Nat} {A : Nat → Hd} (hn : qs.length = n) (hN : N = n + 1)
    (hA : ∀ i, i < n + 1 → w0.cell? ⟨b, i * 2, none⟩ = some (.string (A i).a)) (hB : ∀ i, i < n + 1 → w0.cell? ⟨b, i * 2 + 1, none⟩ = some (.slice (A i).p (A i).l (A i).c))
    (hps : ∀ i p, (q :: qs)[i]? = some p → TIn w0 S p (A i)) (hwf : Tree.srt (.node (q :: qs)) ≠ none)
    (ih : ∀ i p, (q :: qs)[i]? = some p → p.srt ≠ none → ∀ W, Kept w0 W → w0.heap.size ≤ W.heap.size → Calls Tryd.prog 15 #[.agg #[.string (A i).a, .slice (A i).p (A i).l (A i).c]] W fun e w' => e = .returned (.bool p.pure) ∧ Below W.heap.size W w')
    (w : World) (hk : Kept w0 w) (hw : w0.heap.size ≤ w.heap.size) :
    Calls Tryd.prog 15 #[.agg #[.string ByteArray.empty, .slice (some ⟨b, 0, none⟩) N cap]] w fun e w' => e = .returned (.bool (Tree.pure (.node (q :: qs)))) ∧ Below w.heap.size w w' := by
  obtain ⟨h0, hsl, hft⟩ := wf_node hwf
  have h4 := shape_four q.text.toList
  obtain ⟨ht0, htk⟩ := part_texts hn hA hps
  have HFT := hid (fun i c p hc hp hk => fit1_wf (fits_get (shape q.text.toList) qs i c p hft hc hp) hk)
  have HI := hid (fun i c W h0 hc => l2Inner_any q b N cap i ByteArray.empty c W h0 (by omega) hc)
  have HU := hid (show Tree.pure (.node (q :: qs)) = (pureHd q.text.toList && Tree.pures (shape q.text.toList) qs) by rw [Tree.pure])
  obtain ⟨cs, hcs⟩ : ∃ cs, shape q.text.toList = cs := ⟨_, rfl⟩
  rw [hcs] at HFT HI HU hsl h4
  have hn4 : n ≤ 4 := by omega
  have hN1 : n < N := by omega
  have hN2 : N ≤ n + 1 := by omega
  have hN5 : N ≤ 5 := by omega
  have HSL := hid (hsl.trans hn)
  have HN := hid hn
  have HT0 := hid ht0
  have HA := hid hA
  have HB := hid hB
  have HIH := hid ih
  have HK := hid hk
  have hne : 1 ≤ N := by omega
  obtain ⟨W0, hW0⟩ : ∃ W0, W0 = (w.alloc (.cells #[.string ByteArray.empty, .slice (some ⟨b, 0, none⟩) N cap] 27)).alloc (.cells #[.string ⟨#[103, 101, 116]⟩, .string ⟨#[112, 117, 116]⟩, .string ⟨#[102, 97, 105, 108]⟩, .string ⟨#[116, 114, 121]⟩] 9) := ⟨_, rfl⟩
  have hW0s : W0.heap.size = w.heap.size + 2 := by rw [hW0]; simp
  have hbx0 : W0.heap[w.heap.size]? = some (.cells #[.string ByteArray.empty, .slice (some ⟨b, 0, none⟩) N cap] 27 (0, 0)) := by rw [hW0]; exact pair_alloc (heap_alloc_new w _) _
  have hkW : Kept w0 W0 := by rw [hW0]; exact (hk.alloc hw _).alloc (by simp; omega) _
  have hbelw : Below w.heap.size w W0 := by rw [hW0]; exact ((Below.refl _ _).alloc (Nat.le_refl _) _).alloc (by simp) _
  have hsv := sv_eff (w.alloc (.cells #[.string ByteArray.empty, .slice (some ⟨b, 0, none⟩) N cap] 27))
  rw [← hW0] at hsv
  have hasz : (w.alloc (.cells #[.string ByteArray.empty, .slice (some ⟨b, 0, none⟩) N cap] 27)).heap.size = w.heap.size + 1 := by simp
  rw [hasz] at hsv
  have HAS := hid (l2Has_any q.text effW (some ⟨w.heap.size + 1, 0, none⟩) 4 4 W0 hsv (by decide))
  have kc0 := cells_of_pair hbx0
  have hq0 := hkW.cell ht0
  rw [hW0] at kc0 hq0
  have HW0 := hid hW0
  have HBX := hid hbx0
  have HKW := hid hkW
  have HBW := hid hbelw
  have hWs2 : w.heap.size < W0.heap.size := by omega
  have hwW : w0.heap.size ≤ W0.heap.size := by omega
  rw [hasB_eff] at HAS
  clear hn hN hA hB hps hwf ih hk h0 hsl hft h4 ht0 htk hcs hW0 hbx0 hkW hbelw hsv hasz hW0s
  cases hph : pureHd q.text.toList with
  | false =>
    rw [hph, Bool.false_and] at HU
    rw [hph] at HAS
    clear hph
    go_enter Tryd.func15, Tryd.ntmps15
    go_wp2_with (go_at_call 28; rw [← HW0.out]; refine HAS.out.mono ?_; rintro e w1 ⟨rfl, rfl⟩)
    go_ret
    exact ⟨ret_bool HU.out.symm, HBW.out⟩
  | true =>
    rw [hph, Bool.true_and] at HU
    rw [hph] at HAS
    clear hph
    go_enter Tryd.func15, Tryd.ntmps15
    go_wp2_with (go_at_call 28; rw [← HW0.out]; refine HAS.out.mono ?_; rintro e w1 ⟨rfl, rfl⟩)
    go_loopw [3] (fun u wr => ∃ i : Nat, i ≤ n ∧ u = .int .i64 ((i : Int) + 1) ∧ Below W0.heap.size W0 wr ∧ Hid (Tree.pures cs qs = Tree.pures (cs.drop i) (qs.drop i))) (fun u _ => N - (intOf u).toNat)
    case atStart => exact ⟨0, Nat.zero_le _, rfl, Below.refl _ _, hid (by rw [List.drop_zero, List.drop_zero])⟩
    case round =>
      obtain ⟨i, hi, rfl, hbel, hL⟩ := hrel
      have hz := hbel.size
      have kc2 := cells_of_pair (block_below HBX.out hbel hWs2)
      have kw : Kept w0 wr := HKW.out.below hbel hwW
      have hwr : w0.heap.size ≤ wr.heap.size := by omega
      have HBEL := hid hbel
      clear hbel
      by_cases hlt : i < n
      · obtain ⟨p, hp⟩ : ∃ p, qs[i]? = some p := ⟨_, List.getElem?_eq_getElem (by rw [HN.out]; exact hlt)⟩
        obtain ⟨c, hcc⟩ : ∃ c, cs[i]? = some c := ⟨_, List.getElem?_eq_getElem (by rw [HSL.out]; exact hlt)⟩
        have d2 : (i : Int) + 1 < (N : Int) := by omega
        have d2' : i + 1 < N := by omega
        have hst := tpures_at hcc hp
        have CI := hid (fun W (hk : Kept wr W) => HI.out i c W (hk.cell (kw.cell HT0.out)) hcc)
        have CA := hid (fun W (hk : Kept wr W) => hk.cell (kw.cell (HA.out (i + 1) (by omega))))
        have CB2 := hid (fun W (hk : Kept wr W) => hk.cell (kw.cell (HB.out (i + 1) (by omega))))
        have kc3 := hid (fun W (hk : Kept wr W) => (show W.cell? ⟨w.heap.size, 0, none⟩ = some (.string ByteArray.empty) ∧ W.cell? ⟨w.heap.size, 1, none⟩ = some (.slice (some ⟨b, 0, none⟩) N cap) from ⟨hk.cell kc2.1, hk.cell kc2.2.1⟩))
        cases hK : c.isK with
        | false =>
          rw [hK] at CI
          have HL2 := hid (show Tree.pures cs qs = Tree.pures (cs.drop (i + 1)) (qs.drop (i + 1)) by rw [hL.out, hst, hK]; rfl)
          clear hst hL hp hcc kw hK
          go_wp2_with (go_at_call 29; refine (CI.out _ (Kept.refl _)).mono ?_; rintro e w1 ⟨rfl, hb1⟩)
          go_roundw
          case rel => exact ⟨i + 1, by omega, by go_num, HBEL.out.trans (hb1.mono hz), HL2⟩
          case measure => simp [intOf]; omega
        | true =>
          rw [hK] at CI
          have hwp := HFT.out i c p hcc hp hK
          have HC := hid (fun W (hk : Kept wr W) (hs : wr.heap.size ≤ W.heap.size) => HIH.out (i + 1) p (by simpa using hp) hwp W (kw.trans hk hwr) (by omega))
          rw [hK] at hst
          cases hpp : p.pure with
          | true =>
            rw [hpp] at HC hst
            have HL2 := hid (show Tree.pures cs qs = Tree.pures (cs.drop (i + 1)) (qs.drop (i + 1)) by rw [hL.out, hst]; rfl)
            clear hst hL hp hcc kw hK hwp hpp
            go_wp2_with (first | (go_at_call 15; have _ := hb1; refine (HC.out _ (Kept.of_below hb1 (Nat.le_refl _)) hb1.size).mono ?_; rintro e w4 ⟨rfl, hb4⟩) | (go_at_call 29; refine (CI.out _ (Kept.refl _)).mono ?_; rintro e w1 ⟨rfl, hb1⟩; have k1 := kc3.out _ (Kept.of_below hb1 (Nat.le_refl _)); have ca1 := CA.out _ (Kept.of_below hb1 (Nat.le_refl _)); have cb1 := CB2.out _ (Kept.of_below hb1 (Nat.le_refl _))))
            go_roundw
            case rel => exact ⟨i + 1, by omega, by go_num, HBEL.out.trans ((hb1.trans (hb4.mono hb1.size)).mono hz), HL2⟩
            case measure => simp [intOf]; omega
          | false =>
            rw [hpp] at HC hst
            have HL2 := hid (show Tree.pures cs qs = false by rw [hL.out, hst]; rfl)
            clear hst hL hp hcc kw hK hwp hpp
            go_wp2_with (first | (go_at_call 15; have _ := hb1; refine (HC.out _ (Kept.of_below hb1 (Nat.le_refl _)) hb1.size).mono ?_; rintro e w4 ⟨rfl, hb4⟩) | (go_at_call 29; refine (CI.out _ (Kept.refl _)).mono ?_; rintro e w1 ⟨rfl, hb1⟩; have k1 := kc3.out _ (Kept.of_below hb1 (Nat.le_refl _)); have ca1 := CA.out _ (Kept.of_below hb1 (Nat.le_refl _)); have cb1 := CB2.out _ (Kept.of_below hb1 (Nat.le_refl _))))
            go_ret
            exact ⟨ret_bool (by rw [HU.out, HL2.out]), HBW.out.trans ((HBEL.out.trans ((hb1.trans (hb4.mono hb1.size)).mono hz)).mono (by omega))⟩
      · have HE := hid (show Tree.pures cs qs = true by rw [hL.out, List.drop_of_length_le (l := cs) (by rw [HSL.out]; omega)]; simp [Tree.pures])
        clear hL kw
        go_wp2_with fail
        go_ret
        exact ⟨ret_bool (by rw [HU.out, HE.out]), HBW.out.trans (HBEL.out.mono (by omega))⟩

theorem l3Pure_any {w0 : World} {S : Nat → Prop} {t : Tree} {h : Hd} (ht : TIn w0 S t h) : t.srt ≠ none → ∀ w, Kept w0 w → w0.heap.size ≤ w.heap.size →
    Calls Tryd.prog 15 #[.agg #[.string h.a, .slice h.p h.l h.c]] w fun e w' => e = .returned (.bool t.pure) ∧ Below w.heap.size w w' := by
  induction ht with
  | atom a hne hm =>
    intro _ w _ _
    have he := isEmpty_not a hne
    have HQ := hid (show (Tree.atom a).pure = true by rw [Tree.pure])
    go_enter Tryd.func15, Tryd.ntmps15
    go_wp2_with fail
    go_ret
    exact ⟨ret_bool (by rw [HQ.out]), (Below.refl _ _).alloc (Nat.le_refl _) _⟩
  | node ps b cap A hp hl hc hS hA hB hps ih =>
    intro hwf w hk hw
    obtain ⟨q, qs, rfl⟩ : ∃ q qs, ps = q :: qs := by cases ps with | nil => simp at hp | cons q qs => exact ⟨q, qs, rfl⟩
    simp only [List.length_cons] at hl hA hB
    exact l3Pure_go (S := S) (n := qs.length) rfl rfl hA hB hps hwf ih w hk hw

set_option maxRecDepth 100000 in
set_option maxHeartbeats 1000000 in
theorem specTermPure_any (s : ByteArray) (hs : s.size ≤ 400000000) (w : World) : Calls Tryd.prog 7 #[.string s] w fun e w' => e = .returned (.bool (pureOf s)) ∧ Below w.heap.size w w' := by
  have HC := hid (fun W => l2Term_any s hs W)
  cases ht : termTree s with
  | none =>
    have HR := hid (pureOf_none (termTree_none ht))
    have HT := hid ht
    clear ht
    go_enter Tryd.func7, Tryd.ntmps7
    go_wp2_with (go_at_call 14; refine (HC.out _).mono ?_; rintro e w1 hp; rw [HT.out] at hp; obtain ⟨pa, pp, pl, pc, rfl, hpl, hb1⟩ := hp.none; clear hp)
    go_ret
    exact ⟨ret_bool HR.out.symm, hb1.alloc hb1.size _⟩
  | some t =>
    obtain ⟨hpt, hso, hsz, m, hm, htm⟩ := termTree_some ht
    have HR := hid ((pureOf_some hm).trans (tm_pure t [] m htm))
    have HSO := hid hso
    have HT := hid ht
    clear ht hpt hso hm htm
    go_enter Tryd.func7, Tryd.ntmps7
    go_wp2_with (first | (go_at_call 15; have _ := hb1; refine (HD.out _ ((Kept.refl _).alloc (Nat.le_refl _) _) (by simp)).mono ?_; rintro e w2 ⟨rfl, hb2⟩) | (go_at_call 14; refine (HC.out _).mono ?_; rintro e w1 hp; rw [HT.out] at hp; obtain ⟨pa, pp, pl, pc, rfl, hb1, htr⟩ := hp.some; clear hp; have HD := hid (fun W hk hs => l3Pure_any htr HSO.out W hk hs); clear htr))
    go_ret
    have s1 := hb1.size
    exact ⟨ret_bool HR.out.symm, hb1.trans (((Below.refl _ _).alloc s1 _).trans (hb2.mono (by simp; omega)))⟩

set_option maxHeartbeats 1000000 in
theorem lawTermPure (s : ByteArray) (hs : s.size ≤ 9223372036854775807) (w : World) : Calls Tryd.prog 4 #[.string s] w fun e w' => e = .returned (.bool true) ∧ Below w.heap.size w w' := by
  by_cases h : s.size ≤ 1048576
  · have HA := hid (fun W => specTermPure_any s (by omega) W)
    have HB := hid (fun W => implTermPure_any s (by omega) W)
    have hq : (pureOf s != pureOf s) = false := by simp
    go_enter Tryd.func4, Tryd.ntmps4
    go_wp2_with (first | (go_at_call 7; refine (HA.out _).mono ?_; rintro e w1 ⟨rfl, hb1⟩) | (go_at_call 8; refine (HB.out _).mono ?_; rintro e w2 ⟨rfl, hb2⟩))
    go_ret
    exact ⟨rfl, hb1.trans (hb2.mono hb1.size)⟩
  · have h2 : 1048576 < s.size := by omega
    clear h
    go_enter Tryd.func4, Tryd.ntmps4
    go_wp2
    go_ret
    exact ⟨rfl, Below.refl _ _⟩

end Go.Proofs.YtfogjomebcponaaDoor
