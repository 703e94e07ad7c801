/- The program's reading of a phrase with parts as a term. -/
import Derived.Test.YtfogjomebcponaaDoorTermP
namespace Go.Proofs.YtfogjomebcponaaDoor
open Go.RowKit

theorem Bld.under {w w' : World} {b : Nat} {hd : ByteArray} {st : St} (h : Bld w b hd st) (hb : Below w.heap.size w w') : Bld w' b hd st := by
  obtain ⟨bp, bl, bc, kp, kl, kc, A, H⟩ := h
  exact ⟨bp, bl, bc, kp, kl, kc, A, H.under hb⟩
theorem Bld.done {w : World} {b B : Nat} {hd : ByteArray} {st : St} (h : Bld w b hd st) (hB : B ≤ b) : NIn w (fun k => B ≤ k) (.mk hd ByteArray.empty 0 st.binds st.ty st.kids) b := by
  obtain ⟨bp, bl, bc, kp, kl, kc, A, H⟩ := h
  exact H.done.keep (fun _ _ _ => rfl) (fun k hk _ => by omega)

set_option maxRecDepth 100000 in
set_option maxHeartbeats 4000000 in
theorem term_go {w0 : World} {S : Nat → Prop} {q : Tree} {qs : List Tree} {b cap n : Nat} {A : Nat → Hd} (hn : qs.length = n) (hl : n + 1 ≤ cap) (hc : cap ≤ maxLen) (hwt : 1 + Tree.wts (q :: qs) ≤ 12000) (hok : Tree.oks (q :: qs)) (hq : (A 0).a = q.text)
    (hA : ∀ i, i < n + 1 → w0.cell? ⟨b, i * 2, none⟩ = some (.string (A i).a)) (hB : ∀ i, i < n + 1 → w0.cell? ⟨b, i * 2 + 1, none⟩ = some (.slice (A i).p (A i).l (A i).c))
    (hps : ∀ i p, (q :: qs)[i]? = some p → TIn w0 S p (A i)) (ih : ∀ i p, (q :: qs)[i]? = some p → TmAsk w0 p (A i))
    (ar : List ByteArray) (sp : Option Addr) (na sc : Nat) (w : World) (hk : Kept w0 w) (hw : w0.heap.size ≤ w.heap.size) (hv : SV w sp na sc ar) (hna : na + (1 + Tree.wts (q :: qs)) ≤ 12000)
    (h0 : shape q.text.toList ≠ []) (hsl : (shape q.text.toList).length = qs.length) :
    Calls Tryd.prog 45 #[.agg #[.string ByteArray.empty, .slice (some ⟨b, 0, none⟩) (n + 1) cap], .slice sp na sc] w (TmPost (Tree.tm ar (.node (q :: qs))) w) := by
  obtain ⟨R, hR⟩ : ∃ R, Tree.parts ar (shape q.text.toList) qs St.none = R := ⟨_, rfl⟩
  rw [tm_go h0 hsl hR]
  have hlen := wts_length (q :: qs)
  have hlq : (q :: qs).length = n + 1 := by simp [hn]
  rw [hlq] at hlen
  have hwq : Tree.wts (q :: qs) = q.wt + Tree.wts qs := rfl
  have hwp := wt_pos q
  have hn0 : 1 ≤ n := by
    rw [← hn, ← hsl]
    cases hs : shape q.text.toList with
    | nil => exact absurd hs h0
    | cons c l => simp
  have hcap : ¬ cap = 1 := by omega
  unfold maxLen at hc
  have hn2 : n ≤ 12000 := by omega
  have hn4 : n ≤ 4 := by
    rw [← hn, ← hsl]
    rcases shape_mem q.text.toList with ⟨_, e⟩ | ⟨_, e⟩
    · rw [e]; decide
    · rcases e with e | e | e | e | e | e | e | e | e | e | e | e <;> (rw [e]; decide)
  have c1 : w.cell? ⟨b, 0, none⟩ = some (.string q.text) := by have := hk.cell (hA 0 (by omega)); rw [hq] at this; simpa using this
  have c2 : ∀ o, (w.alloc o).cell? ⟨b, 0, none⟩ = some (.string q.text) := fun o => (World.cell?_of_block (w := w) (heap_alloc_old w o (World.block_lt_of_cell? w _ c1))).trans c1
  have HF := hid (fun W => (formOf_any q.text W).mono fun e w' h => (⟨h.1, h.2.symm⟩ : _ ∧ w' = W))
  have hFs := upS_size (shape q.text.toList)
  have HFG := hid (fun i c h hi => upS_get (shape q.text.toList) i c h hi)
  obtain ⟨F, hF⟩ : ∃ F, upS (shape q.text.toList) = F := ⟨_, rfl⟩
  rw [hF] at HF hFs HFG
  rw [hsl, hn] at hFs
  have f1 := isEmpty_not F (by omega)
  have f2 : ((F.size : Int) != (n : Int)) = false := by simp [hFs]
  have f3 : F.size ≤ 9223372036854775807 := by omega
  have d0 : ((n : Int) + 1 == 0) = false := beq_eq_false_iff_ne.2 (by omega)
  have HFS := hid hFs
  have HR := hid hR
  have HN := hid hn
  have HSL := hid hsl
  have HA := hid hA
  have HB := hid hB
  have HPS := hid hps
  have HIH := hid ih
  have HOK := hid hok
  have HK := hid hk
  have HV := hid hv
  have hFle : n ≤ F.size := by omega
  clear hA hB hps ih hok hk hv hR hn hsl h0 hlq hq hFs hF c1
  obtain ⟨cs, hcs⟩ : ∃ cs, shape q.text.toList = cs := ⟨_, rfl⟩
  rw [hcs] at HR HSL HFG
  clear hcs
  go_enter Tryd.func45, Tryd.ntmps45
  go_wp2_with fail
  go_quiet ((go_at_call 39; exact Calls.quiet_of_same (HF.out _)))
  go_wp2_with fail
  go_loopw [47] (fun u wr => ∃ (i : Nat) (st : St), i ≤ n ∧ u = .int .i64 (i : Int) ∧ Bld wr (w.heap.size + 1) q.text st ∧ Below w.heap.size w wr ∧ w.heap.size + 2 ≤ wr.heap.size ∧ Hid (Tree.parts ar (cs.drop i) (qs.drop i) st = R) ∧ st.binds.length + st.kids.length ≤ i ∧ st.binds.length + Tree.wts (qs.drop i) ≤ Tree.wts qs) (fun u _ => n - (intOf u).toNat)
  case atStart =>
    refine ⟨0, St.none, Nat.zero_le _, rfl, ?_, below_drewN (((Below.refl _ _).alloc (Nat.le_refl _) _).alloc (by simp) _) _, by simp, by show _ = _; rw [List.drop_zero, List.drop_zero]; exact HR.out, by simp [St.none], by simp [St.none]⟩
    have hst := BldAt.start (w.alloc (.cells #[.string ByteArray.empty, .slice (some ⟨b, 0, none⟩) (n + 1) cap] 45)) q.text (w.heap.size + 1) (by simp)
    exact Bld.under ⟨_, _, _, _, _, _, _, hst⟩ (below_drewN (Below.refl _ _) _)
  case round =>
    obtain ⟨i, st, hi, rfl, hbld, hbel, hz, hparts, hlen2, hwts⟩ := hrel
    by_cases hlt : i < n
    · obtain ⟨p, hp⟩ : ∃ p, qs[i]? = some p := ⟨_, List.getElem?_eq_getElem (by rw [HN.out]; exact hlt)⟩
      obtain ⟨c, hcc⟩ : ∃ c, cs[i]? = some c := ⟨_, List.getElem?_eq_getElem (by rw [HSL.out, HN.out]; exact hlt)⟩
      have hiF : i < F.size := by omega
      have hFc := HFG.out i c hcc hiF
      have hwd := wts_drop qs i p hp
      have kw : Kept w0 wr := HK.out.below hbel hw
      have hwr : w0.heap.size ≤ wr.heap.size := by omega
      have ca : wr.cell? ⟨b, 2 + i * 2, none⟩ = some (.string (A (i + 1)).a) := by
        have := kw.cell (HA.out (i + 1) (by omega)); rwa [show (i + 1) * 2 = 2 + i * 2 by omega] at this
      have cb : wr.cell? ⟨b, 2 + i * 2 + 1, none⟩ = some (.slice (A (i + 1)).p (A (i + 1)).l (A (i + 1)).c) := by
        have := kw.cell (HB.out (i + 1) (by omega)); rwa [show (i + 1) * 2 = 2 + i * 2 by omega] at this
      have hwp2 := wt_pos p
      have hpt : (q :: qs)[i + 1]? = some p := by simpa using hp
      have HC := hid (fun W (hb : Bld W (w.heap.size + 1) q.text st) (hk : Kept w0 W) (hs : w0.heap.size ≤ W.heap.size) (hv : SV W sp na sc ar) => by
        have := addPart_any (HPS.out (i + 1) p hpt) (by omega) (oks_part _ HOK.out (i + 1) p hpt) (HIH.out (i + 1) p hpt) (w.heap.size + 1) q.text st ar sp na sc W hb hk hs hv (by omega) (by omega) (by omega) c
        rw [← hFc] at this
        exact this)
      have hstep : Tree.parts ar (cs.drop i) (qs.drop i) st = match add1 ar c p st with
          | some st' => Tree.parts ar (cs.drop (i + 1)) (qs.drop (i + 1)) st'
          | none => none := by
        have e1 := List.getElem?_eq_some_iff.1 hp
        have e2 := List.getElem?_eq_some_iff.1 hcc
        rw [List.drop_eq_getElem_cons e1.1, List.drop_eq_getElem_cons e2.1, e1.2, e2.2, parts_cons]
        all_goals (cases add1 ar c p st <;> rfl)
      rw [hparts.out] at hstep
      have HB2 := hid (fun o => (hbld.under ((Below.refl wr.heap.size wr).alloc (Nat.le_refl _) o).drew))
      have HK2 := hid (fun o => kw.below ((Below.refl wr.heap.size wr).alloc (Nat.le_refl _) o).drew hwr)
      have HV2 := hid (fun o => (HV.out.kept (Kept.of_below hbel (Nat.le_refl _))).kept (Kept.of_below ((Below.refl wr.heap.size wr).alloc (Nat.le_refl _) o).drew (Nat.le_refl _)))
      have HBE := hid hbel
      cases hO : add1 ar c p st with
      | none =>
        rw [hO] at hstep HC
        have HRN := hid (show R = none from hstep)
        clear hstep hparts hbld hbel kw hp hcc hFc hpt hO
        go_wp2_with fail
        go_region_with (go_at_call 56; refine (HC.out _ (show Bld (wr.alloc _).drew _ _ _ from HB2.out _) (show Kept w0 (wr.alloc _).drew from HK2.out _) (show w0.heap.size ≤ (wr.alloc _).drew.heap.size by simp; omega) (show SV (wr.alloc _).drew _ _ _ _ from HV2.out _)).mono ?_; rintro e w2 hp2; obtain ⟨rfl, hb2⟩ := hp2.none; have HBL := hid hb2; clear hp2 hb2)
        all_goals
          go_wp2_with fail
          go_ret2
          rw [HRN.out]
          refine ⟨?_, rfl⟩
          exact (HBE.out.alloc (by omega) _).drew.trans (HBL.out.mono (by omega))
      | some st' =>
        rw [hO] at hstep HC
        have HRS := hid hstep.symm
        have hal := add1_len hO
        clear hstep hparts hbld hbel kw hp hcc hFc hpt hO
        go_wp2_with fail
        go_region_with (go_at_call 56; refine (HC.out _ (show Bld (wr.alloc _).drew _ _ _ from HB2.out _) (show Kept w0 (wr.alloc _).drew from HK2.out _) (show w0.heap.size ≤ (wr.alloc _).drew.heap.size by simp; omega) (show SV (wr.alloc _).drew _ _ _ _ from HV2.out _)).mono ?_; rintro e w2 hp2; obtain ⟨rfl, hb2, hbl2⟩ := hp2.some; have HBL := hid hb2; have HBN := hid hbl2; clear hp2 hb2 hbl2)
        all_goals
          go_wp2_with fail
          go_roundw
          case rel =>
            have hz2 := HBL.out.size
            simp at hz2
            exact ⟨i + 1, st', by omega, by go_num, HBN.out, (HBE.out.alloc (by omega) _).drew.trans (HBL.out.mono (by omega)), by omega, HRS.out, by omega, by omega⟩
          case measure => simp [intOf]; omega
    · have hin : i = n := by omega
      have hRe : R = some st := by
        rw [← hparts.out, hin, List.drop_of_length_le (by rw [HSL.out, HN.out]; exact Nat.le_refl _), List.drop_of_length_le (by rw [HN.out]; exact Nat.le_refl _)]
        rfl
      have HRE := hid hRe
      have HBD := hid hbld
      have HBE := hid hbel
      clear hin hRe hparts hbld hbel
      go_wp2_with fail
      go_ret2
      rw [HRE.out]
      exact ⟨HBE.out, w.heap.size + 1, rfl, HBD.out.done (by omega)⟩

/-- THE PROGRAM's READING OF A PHRASE AS A TERM. -/
theorem termOfPhrase_any {w0 : World} {S : Nat → Prop} {t : Tree} {h : Hd} (ht : TIn w0 S t h) : t.wt ≤ 12000 → t.ok → TmAsk w0 t h := by
  induction ht with
  | atom s hne hm => intro _ hok; exact term_atom w0 s hne (by have := hok.1; omega)
  | node ps b cap A hp hl hc hS hA hB hps ih =>
    intro hwt hok ar sp na sc w hk hw hv hna
    obtain ⟨q, qs, rfl⟩ : ∃ q qs, ps = q :: qs := by cases ps with | nil => simp at hp | cons q qs => exact ⟨q, qs, rfl⟩
    rw [Tree.wt] at hwt hna
    rw [Tree.ok] at hok
    have hq := (hps 0 q rfl).text
    have hlen := wts_length (q :: qs)
    simp only [List.length_cons] at hl hA hB hlen
    by_cases hno : shape q.text.toList = [] ∨ (shape q.text.toList).length ≠ qs.length
    · exact term_no (n := qs.length) rfl hl hc (by omega) hq (by simpa using hA 0 (by omega)) ar sp na sc w hk hno
    · have h0 : shape q.text.toList ≠ [] := fun e => hno (Or.inl e)
      have hsl : (shape q.text.toList).length = qs.length := by
        rcases Nat.decEq (shape q.text.toList).length qs.length with h | h
        · exact absurd (Or.inr h) hno
        · exact h
      refine term_go (S := S) (n := qs.length) rfl hl hc hwt hok hq hA hB hps (fun i p hp => ?_) ar sp na sc w hk hw hv hna h0 hsl
      exact ih i p hp (by have := wt_part (q :: qs) i p hp; omega) (oks_part _ hok i p hp)
end Go.Proofs.YtfogjomebcponaaDoor
