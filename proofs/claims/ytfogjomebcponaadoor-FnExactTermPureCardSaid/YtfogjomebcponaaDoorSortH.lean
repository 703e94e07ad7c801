/- The model's sort of a tree with parts. -/
import Derived.Test.YtfogjomebcponaaDoorSortG
namespace Go.Proofs.YtfogjomebcponaaDoor
open Go.RowKit

set_option maxRecDepth 100000 in
set_option maxHeartbeats 2000000 in
theorem sort_no {w0 : World} {q : Tree} {qs : List Tree} {b cap n : Nat} (hn : qs.length = n) (hn2 : n ≤ 12000) (w : World) (hk : Kept w0 w)
    (hh : ∀ W, Kept w0 W → Calls Tryd.prog 32 #[.agg #[.string ByteArray.empty, .slice (some ⟨b, 0, none⟩) (n + 1) cap]] W fun e w' => e = .returned (.string q.text) ∧ Below W.heap.size W w')
    (hw : w0.heap.size ≤ w.heap.size)
    (hno : shape q.text.toList = [] ∨ (shape q.text.toList).length ≠ qs.length) :
    Calls Tryd.prog 27 #[.agg #[.string ByteArray.empty, .slice (some ⟨b, 0, none⟩) (n + 1) cap]] w fun e w' => e = .returned (.string (srtS (Tree.srt (.node (q :: qs))))) ∧ Below w.heap.size w w' := by
  rw [srt_no hno]
  have HH := hid (fun o => hh (w.alloc o) (hk.alloc hw o))
  have HF := hid (fun W => l2Shape_any q.text W)
  have hsz := loS_size (shape q.text.toList)
  obtain ⟨F, hF⟩ : ∃ F, loS (shape q.text.toList) = F := ⟨_, rfl⟩
  rw [hF] at HF hsz
  have hn3 : (n : Int) + 1 ≤ 12001 := by omega
  have f3 : F.size ≤ 4 := by
    have := shape_mem q.text.toList
    have : (shape q.text.toList).length ≤ 4 := by
      rcases this with ⟨_, e⟩ | ⟨_, e⟩
      · rw [e]; decide
      · rcases e with e | e | e | e | e | e | e | e | e | e | e | e <;> (rw [e]; decide)
    omega
  clear hk hh hF hw
  by_cases he : F.size = 0
  · have f1 := isEmpty_of F he
    clear hno hsz he
    go_enter Tryd.func27, Tryd.ntmps27
    go_wp2_with (first | (go_at_call 32; refine (HH.out _).mono ?_; rintro e w1 ⟨rfl, hb1⟩; have kc := cells_of_pair (block_below (heap_new w (.cells #[.string ByteArray.empty, .slice (some ⟨b, 0, none⟩) (n + 1) cap] 27) _ rfl) hb1 (by simp))) | (go_at_call 43; refine (HF.out _).mono ?_; rintro e w2 ⟨rfl, rfl⟩))
    go_ret
    exact ⟨rfl, ((Below.refl _ _).alloc (Nat.le_refl _) _).trans (hb1.mono (by simp))⟩
  · have f1 := isEmpty_not F he
    have f2 : ((n : Int) + 1 != (F.size : Int) + 1) = true := by
      refine bne_iff_ne.2 ?_
      rcases hno with h | h
      · rw [h, List.length_nil] at hsz; omega
      · omega
    clear hno hsz he
    go_enter Tryd.func27, Tryd.ntmps27
    go_wp2_with (first | (go_at_call 32; refine (HH.out _).mono ?_; rintro e w1 ⟨rfl, hb1⟩; have kc := cells_of_pair (block_below (heap_new w (.cells #[.string ByteArray.empty, .slice (some ⟨b, 0, none⟩) (n + 1) cap] 27) _ rfl) hb1 (by simp))) | (go_at_call 43; refine (HF.out _).mono ?_; rintro e w2 ⟨rfl, rfl⟩))
    go_ret
    exact ⟨rfl, ((Below.refl _ _).alloc (Nat.le_refl _) _).trans (hb1.mono (by simp))⟩

set_option maxRecDepth 100000 in
set_option maxHeartbeats 40000000 in
theorem sort_go {w0 : World} {S : Nat → Prop} {q : Tree} {qs : List Tree} {b cap n N : Nat} {A : Nat → Hd} (hn : qs.length = n) (hN : N = n + 1) (_hl : n + 1 ≤ cap) (_hc : cap ≤ maxLen) (hwt : 1 + Tree.wts (q :: qs) ≤ 12000) (hok : Tree.oks (q :: qs))
    (hA : ∀ i, i < n + 1 → w0.cell? ⟨b, i * 2, none⟩ = some (.string (A i).a)) (hB : ∀ i, i < n + 1 → w0.cell? ⟨b, i * 2 + 1, none⟩ = some (.slice (A i).p (A i).l (A i).c))
    (hps : ∀ i p, (q :: qs)[i]? = some p → TIn w0 S p (A i)) (ih : ∀ i p, (q :: qs)[i]? = some p → SrtAsk w0 p (A i))
    (w : World) (hk : Kept w0 w) (hw : w0.heap.size ≤ w.heap.size)
    (hh : ∀ W, Kept w0 W → Calls Tryd.prog 32 #[.agg #[.string ByteArray.empty, .slice (some ⟨b, 0, none⟩) N cap]] W fun e w' => e = .returned (.string q.text) ∧ Below W.heap.size W w')
    (h0 : shape q.text.toList ≠ []) (hsl : (shape q.text.toList).length = qs.length) :
    Calls Tryd.prog 27 #[.agg #[.string ByteArray.empty, .slice (some ⟨b, 0, none⟩) N cap]] w fun e w' => e = .returned (.string (srtS (Tree.srt (.node (q :: qs))))) ∧ Below w.heap.size w w' := by
  have HBAD := hid (fun hf => srt_bad h0 hsl hf)
  have HPLAIN := hid (fun hf hs => srt_plain h0 hsl hf hs)
  have HSPLIT := hid (fun hf hs x y hx hy => srt_split h0 hsl hf hs (x := x) (y := y) hx hy)
  have HVAL := hid (isVal_head h0)
  obtain ⟨R, hR⟩ : ∃ R, Tree.srt (.node (q :: qs)) = R := ⟨_, rfl⟩
  rw [hR] at HBAD HPLAIN HSPLIT ⊢
  have hlen := wts_length (q :: qs)
  have hlq : (q :: qs).length = n + 1 := by simp [hn]
  rw [hlq] at hlen
  unfold maxLen at _hc
  have hn4 : n ≤ 4 := by
    rw [← hn, ← hsl]
    rcases shape_mem q.text.toList with ⟨_, e⟩ | ⟨_, e⟩
    · rw [e]; decide
    · rcases e with e | e | e | e | e | e | e | e | e | e | e | e <;> (rw [e]; decide)
  have HN4 := hid (show q.text.toList = [115, 112, 108, 105, 116] → n = 4 by
    intro e; rw [← hn, ← hsl, e]; rfl)
  have hn0 : 1 ≤ n := by
    rw [← hn, ← hsl]
    cases hs : shape q.text.toList with
    | nil => exact absurd hs h0
    | cons c l => simp
  have HH := hid (fun o => hh (w.alloc o) (hk.alloc hw o))
  have HF := hid (fun W => l2Shape_any q.text W)
  have hFs := loS_size (shape q.text.toList)
  have HFG := hid (fun i c h hi => loS_get (shape q.text.toList) i c h hi)
  obtain ⟨F, hF⟩ : ∃ F, loS (shape q.text.toList) = F := ⟨_, rfl⟩
  rw [hF] at HF hFs HFG
  rw [hsl, hn] at hFs
  have f1 := isEmpty_not F (by omega)
  have f2 : ((N : Int) != (F.size : Int) + 1) = false := by simp [hFs, hN]
  have f3 : F.size ≤ 4 := by omega
  have hN1 : n < N := by omega
  have hN2 : N ≤ 5 := by omega
  clear hN
  have HN := hid hn
  have HSL := hid hsl
  have HA := hid hA
  have HB := hid hB
  have HPS := hid hps
  have HIH := hid ih
  have HOK := hid hok
  have HK := hid hk
  have hFle : n ≤ F.size := by omega
  have hFle2 : F.size ≤ n := by omega
  clear hA hB hps ih hok hk hR hn hsl h0 hlq hFs hF hh
  obtain ⟨cs, hcs⟩ : ∃ cs, shape q.text.toList = cs := ⟨_, rfl⟩
  rw [hcs] at HSL HFG HBAD HPLAIN HSPLIT
  clear hcs
  go_enter Tryd.func27, Tryd.ntmps27
  go_wp2_with (first | (go_at_call 32; refine (HH.out _).mono ?_; rintro e w1 ⟨rfl, hb1⟩; have kc := cells_of_pair (block_below (heap_new w (.cells #[.string ByteArray.empty, .slice (some ⟨b, 0, none⟩) N cap] 27) _ rfl) hb1 (by simp))) | (go_at_call 43; refine (HF.out _).mono ?_; rintro e w2 ⟨rfl, rfl⟩))
  go_loopw [5] (fun u wr => ∃ i : Nat, i ≤ n ∧ u = .int .i64 (i : Int) ∧ Below (w.heap.size + 1) (w.alloc (.cells #[.string ByteArray.empty, .slice (some ⟨b, 0, none⟩) N cap] 27)) wr ∧ Hid (Tree.fits cs qs = Tree.fits (cs.drop i) (qs.drop i))) (fun u _ => n - (intOf u).toNat)
  case atStart =>
    exact ⟨0, Nat.zero_le _, rfl, hb1.mono (by simp), by show _ = _; rw [List.drop_zero, List.drop_zero]⟩
  case round =>
    obtain ⟨i, hi, rfl, hbel, hfit⟩ := hrel
    have hz := hbel.size
    simp at hz
    have kc2 := cells_of_pair (block_below (heap_new w (.cells #[.string ByteArray.empty, .slice (some ⟨b, 0, none⟩) N cap] 27) w.heap.size rfl) hbel (by omega))
    have kw : Kept w0 wr := (HK.out.alloc hw _).below hbel (by omega)
    have hwr : w0.heap.size ≤ wr.heap.size := by omega
    by_cases hlt : i < n
    · obtain ⟨p, hp⟩ : ∃ p, qs[i]? = some p := ⟨_, List.getElem?_eq_getElem (by rw [HN.out]; exact hlt)⟩
      obtain ⟨c, hcc⟩ : ∃ c, cs[i]? = some c := ⟨_, List.getElem?_eq_getElem (by rw [HSL.out, HN.out]; exact hlt)⟩
      have hiF : i < F.size := by omega
      have d2 : i + 1 < N := by omega
      have d3 : (i : Int) < (F.size : Int) := by omega
      have dA : (0 : Int) ≤ (i : Int) + 1 := by omega
      have dB : (i : Int) + 1 < (N : Int) := by omega
      have dF : IntKind.i64.wrap ((i : Int) + 1) = (i : Int) + 1 := (IntWalk.i64_left _).trans (IntWalk.wrap64_in ((i : Int) + 1) (by omega))
      have hFc := HFG.out i c hcc hiF
      have ca := kw.cell (HA.out (i + 1) (by omega))
      have cb := kw.cell (HB.out (i + 1) (by omega))
      have hpt : (q :: qs)[i + 1]? = some p := by simpa using hp
      have hwp := wt_part (q :: qs) (i + 1) p hpt
      have HC := hid (fun W (hk : Kept w0 W) (hs : w0.heap.size ≤ W.heap.size) => by
        have := l2Fits_any (HPS.out (i + 1) p hpt) (by omega) (oks_part _ HOK.out (i + 1) p hpt) (HIH.out (i + 1) p hpt) W hk hs c
        rw [← hFc] at this
        exact this)
      have hstep : Tree.fits cs qs = (fit1 c p && Tree.fits (cs.drop (i + 1)) (qs.drop (i + 1))) := by
        have e1 := List.getElem?_eq_some_iff.1 hp
        have e2 := List.getElem?_eq_some_iff.1 hcc
        rw [hfit.out, List.drop_eq_getElem_cons e1.1, List.drop_eq_getElem_cons e2.1, e1.2, e2.2, fits_cons]
      have KW := hid (show Kept w0 wr.drew from kw.below (Below.refl wr.heap.size wr).drew hwr)
      obtain ⟨B, hO⟩ : ∃ B, fit1 c p = B := ⟨_, rfl⟩
      rw [hO] at hstep HC
      have HRN := hid (show B = false → R = none from fun e => HBAD.out (by rw [hstep, e]; rfl))
      have HRS := hid (show B = true → Tree.fits cs qs = Tree.fits (cs.drop (i + 1)) (qs.drop (i + 1)) from fun e => by rw [hstep, e, Bool.true_and])
      clear hstep hfit kw hp hcc hFc hpt hO HBAD HPLAIN HSPLIT HVAL HN4 HPS HIH HOK HA HB HFG HK HH HF hwp
      go_wp2_with fail
      go_region_with (go_at_call 44; refine (HC.out _ (show Kept w0 wr.drew from KW.out) (show w0.heap.size ≤ wr.drew.heap.size from hwr)).mono ?_; rintro e w3 ⟨rfl, hb3⟩)
      all_goals
        cases B with
        | false =>
          go_wp2_with fail
          go_ret
          refine ⟨ret_str (by rw [HRN.out (by trivial)]; rfl), ?_⟩
          exact ((Below.refl _ _).alloc (Nat.le_refl _) _).trans ((hbel.mono (by omega)).trans ((Below.refl _ wr).drew.trans (hb3.mono (show w.heap.size ≤ wr.heap.size by omega))))
        | true =>
          go_wp2_with fail
          go_roundw
          case rel =>
            exact ⟨i + 1, by omega, by go_num, hbel.trans ((Below.refl _ wr).drew.trans (hb3.mono (show w.heap.size + 1 ≤ wr.heap.size by omega))), by show _ = _; exact HRS.out (by trivial)⟩
          case measure => simp [intOf]; omega
    · have hin : i = n := by omega
      have hft : Tree.fits cs qs = true := by
        rw [hfit.out, hin, List.drop_of_length_le (by rw [HSL.out, HN.out]; exact Nat.le_refl _), List.drop_of_length_le (by rw [HN.out]; exact Nat.le_refl _)]
        rfl
      have HFT := hid hft
      have HBE := hid (((Below.refl w.heap.size w).alloc (Nat.le_refl _) _).trans (hbel.mono (by omega)))
      cases e1 : q.text.toList == [115, 112, 108, 105, 116] with
      | true =>
        have hs : q.text.toList = [115, 112, 108, 105, 116] := by simpa using e1
        have hn4' := HN4.out hs
        obtain ⟨x, hx⟩ : ∃ x, qs[1]? = some x := ⟨_, List.getElem?_eq_getElem (by rw [HN.out]; omega)⟩
        obtain ⟨y, hy⟩ : ∃ y, qs[2]? = some y := ⟨_, List.getElem?_eq_getElem (by rw [HN.out]; omega)⟩
        have hRR := HSPLIT.out hft hs x y hx hy
        have tx := (HPS.out 2 x (by simpa using hx)).text
        have ty := (HPS.out 3 y (by simpa using hy)).text
        have ca : wr.cell? ⟨b, 4, none⟩ = some (.string x.text) := by have := kw.cell (HA.out 2 (by omega)); rw [tx] at this; simpa using this
        have cb : wr.cell? ⟨b, 6, none⟩ = some (.string y.text) := by have := kw.cell (HA.out 3 (by omega)); rw [ty] at this; simpa using this
        have d2 : (2 : Int) < (N : Int) := by omega
        have d3 : (3 : Int) < (N : Int) := by omega
        cases e2 : x.text.toList == y.text.toList with
        | true =>
          rw [e2] at hRR
          have HRR := hid (show R = none from hRR)
          clear hRR hin hft hfit hbel kw hx hy tx ty hs
          go_wp2_with fail
          go_region
          all_goals
            go_wp2_with fail
            go_ret
            exact ⟨ret_str (by rw [HRR.out]; rfl), HBE.out.drew⟩
        | false =>
          rw [e2] at hRR
          have HRR := hid (show R = some false from hRR)
          have e3 : (q.text.toList == [112, 97, 105, 114]) = false := by rw [hs]; rfl
          have e4 : (q.text.toList == [116, 104, 117, 110, 107]) = false := by rw [hs]; rfl
          clear hRR hin hft hfit hbel kw hx hy tx ty hs
          go_wp2_with fail
          go_region
          all_goals
            go_wp2_with fail
            go_ret
            exact ⟨ret_str (by rw [HRR.out]; rfl), HBE.out.drew⟩
      | false =>
        have hRR := HPLAIN.out hft e1
        rw [HVAL.out] at hRR
        cases e3 : q.text.toList == [112, 97, 105, 114] with
        | true =>
          rw [e3, Bool.true_or] at hRR
          have HRR := hid hRR
          clear hRR hin hft hfit hbel kw
          go_wp2_with fail
          go_region
          all_goals
            go_wp2_with fail
            go_ret
            exact ⟨ret_str (by rw [HRR.out]; rfl), HBE.out.drew⟩
        | false =>
          cases e4 : q.text.toList == [116, 104, 117, 110, 107] with
          | true =>
            rw [e3, e4, Bool.or_true] at hRR
            have HRR := hid hRR
            clear hRR hin hft hfit hbel kw
            go_wp2_with fail
            go_region
            all_goals
              go_wp2_with fail
              go_ret
              exact ⟨ret_str (by rw [HRR.out]; rfl), HBE.out.drew⟩
          | false =>
            rw [e3, e4, Bool.or_false] at hRR
            have HRR := hid hRR
            clear hRR hin hft hfit hbel kw
            go_wp2_with fail
            go_region
            all_goals
              go_wp2_with fail
              go_ret
              exact ⟨ret_str (by rw [HRR.out]; rfl), HBE.out.drew⟩

/-- THE MODEL's SORT of a tree. -/
theorem l2Sort_any {w0 : World} {S : Nat → Prop} {t : Tree} {h : Hd} (ht : TIn w0 S t h) : t.wt ≤ 12000 → t.ok → SrtAsk w0 t h := by
  have hh := fun (w : World) (hk : Kept w0 w) => l1Head_any ht w hk
  induction ht with
  | atom s hne hm => intro _ hok; exact srt_atom w0 s hne (by have := hok.1; omega)
  | node ps b cap A hp hl hc hS hA hB hps ih =>
    intro hwt hok w hk hw
    obtain ⟨q, qs, rfl⟩ : ∃ q qs, ps = q :: qs := by cases ps with | nil => simp at hp | cons q qs => exact ⟨q, qs, rfl⟩
    rw [Tree.wt] at hwt
    rw [Tree.ok] at hok
    have hlen := wts_length (q :: qs)
    simp only [List.length_cons] at hl hA hB hlen
    by_cases hno : shape q.text.toList = [] ∨ (shape q.text.toList).length ≠ qs.length
    · exact sort_no (n := qs.length) rfl (by omega) w hk hh hw hno
    · have h0 : shape q.text.toList ≠ [] := fun e => hno (Or.inl e)
      have hsl : (shape q.text.toList).length = qs.length := by
        rcases Nat.decEq (shape q.text.toList).length qs.length with h | h
        · exact absurd (Or.inr h) hno
        · exact h
      refine sort_go (S := S) (n := qs.length) rfl rfl hl hc hwt hok hA hB hps (fun i p hp => ?_) w hk hw hh h0 hsl
      exact ih i p hp (fun w hk => l1Head_any (hps i p hp) w hk) (by have := wt_part (q :: qs) i p hp; omega) (oks_part _ hok i p hp)
end Go.Proofs.YtfogjomebcponaaDoor
