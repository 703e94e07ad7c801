/- Merged: SxL. -/
import Derived.Test.YtelbkenggonakaaDoorDDSSxK
namespace Go.Proofs.YtelbkenggonakaaDoor
open Go.RowKit

/-- One part, by its sign. -/
theorem addPart7_any {w0 : World} {S : Nat → Prop} {p : Tree} {h : Hd} (ht : TIn w0 S p h) (hwt : p.wt ≤ 12000) (hsz : p.text.size ≤ 12000) (ih : Ask7 w0 p h) (b : Nat) (hd : ByteArray) (st : Sst) (w : World) (hst : B7 w b hd st) (hk : Kept w0 w) (hw : w0.heap.size ≤ w.heap.size) (hkn : st.ks.length ≤ 1000) (g : Fg) :
    Calls Tryd.prog 42 #[.pointer (some ⟨b, 0, none⟩), .int .u8 (g.up.toNat : Int), .agg #[.string h.a, .slice h.p h.l h.c]] w (P7Post (add7 g p p.sx st) b hd w) := by
  cases g with
  | e => exact addPart_e ih b hd st w hst hk hw hkn
  | x => exact addPart_x ht hsz b hd st p.sx w hst
  | s => exact addPart_s ht hwt b hd st p.sx w hst hk hw
theorem add7_len {g : Fg} {p : Tree} {o : Option Sx} {st st' : Sst} (h : add7 g p o st = some st') : st'.ks.length ≤ st.ks.length + 1 := by
  cases g with
  | e => obtain ⟨_, _, e⟩ := add7_e h; rw [e]; simp
  | x => obtain ⟨_, e⟩ := add7_x h; rw [e]; simp
  | s => obtain ⟨_, _, _, e⟩ := add7_s h; rw [e]; simp

set_option maxRecDepth 100000 in
set_option maxHeartbeats 1000000 in
theorem source_atom (w0 : World) (s : ByteArray) (hm : s.size ≤ 400000000) : Ask7 w0 (.atom s) ⟨s, none, 0, 0⟩ := by
  intro w hk hw
  have HA := hid (fun W => sourceOfAtom_any s hm W)
  rw [Tree.sx]
  obtain ⟨O, hO⟩ : ∃ O, atomSx s = O := ⟨_, rfl⟩
  rw [hO] at HA ⊢
  clear hO hk
  cases O with
  | none =>
    go_enter Tryd.func31, Tryd.ntmps31
    go_wp2_with (go_at_call 40; refine (HA.out _).mono ?_; rintro e w1 hp; obtain ⟨p1, rfl, hb1⟩ := hp.none; clear hp)
    go_ret2
    exact x7_none (((Below.refl _ _).alloc (Nat.le_refl _) _).trans (hb1.mono (by simp)))
  | some m =>
    go_enter Tryd.func31, Tryd.ntmps31
    go_wp2_with (go_at_call 40; refine (HA.out _).mono ?_; rintro e w1 hp; obtain ⟨a, rfl, hb1, hn1⟩ := hp.some; have HN1 := hid hn1; clear hp hn1)
    go_ret2
    exact x7_some (((Below.refl _ _).alloc (Nat.le_refl _) _).trans (hb1.mono (by simp))) (HN1.out.wide (fun k hk => by simp at hk; omega))

set_option maxRecDepth 100000 in
set_option maxHeartbeats 2000000 in
theorem source_no {w0 : World} {q : Tree} {qs : List Tree} {b cap n : Nat} {A : Nat → Hd} (hn : qs.length = n) (hl : n + 1 ≤ cap) (hc : cap ≤ maxLen) (hn2 : n ≤ 12000) (hq : (A 0).a = q.text) (c0 : w0.cell? ⟨b, 0, none⟩ = some (.string (A 0).a)) (w : World) (hk : Kept w0 w)
    (hno : ∀ f, frm q.text.toList = some f → f.length ≠ qs.length) :
    Calls Tryd.prog 31 #[.agg #[.string ByteArray.empty, .slice (some ⟨b, 0, none⟩) (n + 1) cap]] w (X7Post (Tree.node (q :: qs)).sx w) := by
  have HR := hid (show (Tree.node (q :: qs)).sx = none by
    cases hf : frm q.text.toList with
    | none => rw [sx_none hf]
    | some f => rw [sx_some hf, addL_bad (hno f hf)]; rfl)
  rw [HR.out]
  have c1 := hk.cell c0
  rw [hq] at c1
  have c2 : ∀ o, (w.alloc o).cell? ⟨b, 0, none⟩ = some (.string q.text) := fun o => (World.cell?_of_block (w := w) (heap_alloc_old w o (World.block_lt_of_cell? w _ c1))).trans c1
  have d0 : ((n : Int) + 1 == 0) = false := beq_eq_false_iff_ne.2 (by omega)
  unfold maxLen at hc
  clear hk c0 hq
  cases hf : frm q.text.toList with
  | none =>
    have HF := hid (fun W => (show Calls Tryd.prog 41 #[.string q.text] W fun e w' => e = .returned (.tuple #[.string ByteArray.empty, .bool false]) ∧ W = w' from by
      have := sourceForm_any q.text W
      rw [frmV, hf] at this; exact this))
    clear hno hf HR hn
    by_cases hcap : cap = 1
    · obtain rfl : n = 0 := by omega
      subst hcap
      go_enter Tryd.func31, Tryd.ntmps31
      go_wp2_with (go_at_call 41; refine (HF.out _).mono ?_; rintro e w2 ⟨rfl, rfl⟩)
      go_ret2
      exact x7_none (((Below.refl _ _).alloc (Nat.le_refl _) _).alloc (by simp) _)
    · go_enter Tryd.func31, Tryd.ntmps31
      go_wp2_with (go_at_call 41; refine (HF.out _).mono ?_; rintro e w2 ⟨rfl, rfl⟩)
      go_ret2
      exact x7_none (((Below.refl _ _).alloc (Nat.le_refl _) _).alloc (by simp) _)
  | some f =>
    have HF := hid (fun W => (show Calls Tryd.prog 41 #[.string q.text] W fun e w' => e = .returned (.tuple #[.string (upG f), .bool true]) ∧ W = w' from by
      have := sourceForm_any q.text W
      rw [frmV, hf] at this; exact this))
    have hsz := upG_size f
    have hne := hno f hf
    rw [hn] at hne
    have hf3 := frm_len hf
    obtain ⟨F, hF⟩ : ∃ F, upG f = F := ⟨_, rfl⟩
    rw [hF] at HF hsz
    have f2 : ((F.size : Int) != (n : Int)) = true := bne_iff_ne.2 (by omega)
    have f3 : F.size ≤ 3 := by omega
    clear hno hf HR hn hF hsz hne hf3
    by_cases hcap : cap = 1
    · obtain rfl : n = 0 := by omega
      subst hcap
      go_enter Tryd.func31, Tryd.ntmps31
      go_wp2_with (go_at_call 41; refine (HF.out _).mono ?_; rintro e w2 ⟨rfl, rfl⟩)
      go_ret2
      exact x7_none (((Below.refl _ _).alloc (Nat.le_refl _) _).alloc (by simp) _)
    · go_enter Tryd.func31, Tryd.ntmps31
      go_wp2_with (go_at_call 41; refine (HF.out _).mono ?_; rintro e w2 ⟨rfl, rfl⟩)
      go_ret2
      exact x7_none (((Below.refl _ _).alloc (Nat.le_refl _) _).alloc (by simp) _)

set_option maxRecDepth 100000 in
set_option maxHeartbeats 2000000 in
theorem source_nil {w0 : World} {q : Tree} {b cap : Nat} {A : Nat → Hd} (hl : 1 ≤ cap) (hc : cap ≤ maxLen) (hq : (A 0).a = q.text) (c0 : w0.cell? ⟨b, 0, none⟩ = some (.string (A 0).a)) (w : World) (hk : Kept w0 w)
    (hf : frm q.text.toList = some []) :
    Calls Tryd.prog 31 #[.agg #[.string ByteArray.empty, .slice (some ⟨b, 0, none⟩) 1 cap]] w (X7Post (Tree.node [q]).sx w) := by
  have hg := frm_nil hf
  have HR := hid (show (Tree.node [q]).sx = some .get by
    rw [sx_some hf, hg]; rfl)
  rw [HR.out]
  have c1 := hk.cell c0
  rw [hq] at c1
  have c2 : ∀ o, (w.alloc o).cell? ⟨b, 0, none⟩ = some (.string q.text) := fun o => (World.cell?_of_block (w := w) (heap_alloc_old w o (World.block_lt_of_cell? w _ c1))).trans c1
  unfold maxLen at hc
  have HF := hid (fun W => (show Calls Tryd.prog 41 #[.string q.text] W fun e w' => e = .returned (.tuple #[.string ByteArray.empty, .bool true]) ∧ W = w' from by
    have := sourceForm_any q.text W
    rw [frmV, hf] at this; exact this))
  have HD := hid (show ∀ (w : World) o, XIn ((w.alloc o).alloc (.cells #[.string q.text, .string ByteArray.empty, .string ByteArray.empty, .pointer none, .slice none 0 0] 69)) (fun k => w.heap.size ≤ k) .get (w.heap.size + 1) from fun w o => by
    have := (B7At.start (w.alloc o) q.text (w.heap.size + 1) (by simp)).done (e := .get) (by rw [hg, show Sx.get.head = hGet from rfl, hGet_l]) rfl rfl rfl rfl
    exact this.wide (fun k hk => by omega))
  clear hk c0 hq hf HR hg
  by_cases hcap : cap = 1
  · subst hcap
    go_enter Tryd.func31, Tryd.ntmps31
    go_wp2_with (go_at_call 41; refine (HF.out _).mono ?_; rintro e w2 ⟨rfl, rfl⟩)
    refine wp_loop_rounds 1 ?_
    rw [rounds_succ]
    go_wp2_with fail
    go_ret2
    exact x7_some (((Below.refl _ _).alloc (Nat.le_refl _) _).alloc (by simp) _) (HD.out w _)
  · go_enter Tryd.func31, Tryd.ntmps31
    go_wp2_with (go_at_call 41; refine (HF.out _).mono ?_; rintro e w2 ⟨rfl, rfl⟩)
    refine wp_loop_rounds 1 ?_
    rw [rounds_succ]
    go_wp2_with fail
    go_ret2
    exact x7_some (((Below.refl _ _).alloc (Nat.le_refl _) _).alloc (by simp) _) (HD.out w _)

set_option maxRecDepth 100000 in
set_option maxHeartbeats 8000000 in
theorem source_go {w0 : World} {S : Nat → Prop} {q : Tree} {qs : List Tree} {b cap n : Nat} {A : Nat → Hd} {f : List Fg} (hn : qs.length = n) (hn0 : n ≠ 0) (hl : n + 1 ≤ cap) (_hc : cap ≤ maxLen) (hq : (A 0).a = q.text)
    (hsz : ∀ (i : Nat) (p : Tree), (q :: qs)[i]? = some p → p.wt ≤ 12000 ∧ p.text.size ≤ 12000)
    (hA : ∀ i, i < n + 1 → w0.cell? ⟨b, i * 2, none⟩ = some (.string (A i).a)) (hB : ∀ i, i < n + 1 → w0.cell? ⟨b, i * 2 + 1, none⟩ = some (.slice (A i).p (A i).l (A i).c))
    (hps : ∀ (i : Nat) (p : Tree), (q :: qs)[i]? = some p → TIn w0 S p (A i)) (ih : ∀ (i : Nat) (p : Tree), (q :: qs)[i]? = some p → Ask7 w0 p (A i))
    (w : World) (hk : Kept w0 w) (hw : w0.heap.size ≤ w.heap.size) (hf : frm q.text.toList = some f) (hfl : f.length = qs.length) :
    Calls Tryd.prog 31 #[.agg #[.string ByteArray.empty, .slice (some ⟨b, 0, none⟩) (n + 1) cap]] w (X7Post (Tree.node (q :: qs)).sx w) := by
  obtain ⟨R, hR⟩ : ∃ R, addL f qs (qs.map Tree.sx) Sst.none = R := ⟨_, rfl⟩
  have HOK := hid (fun st (h : R = some st) => mkSx_ok hf (hR.trans h))
  rw [sx_go hf hR]
  have hn3 : n ≤ 3 := by rw [← hn, ← hfl]; exact frm_len hf
  have hcap : ¬ cap = 1 := by omega
  have c1 : w.cell? ⟨b, 0, none⟩ = some (.string q.text) := by have := hk.cell (hA 0 (by omega)); rw [hq] at this; simpa using this
  have c2 : ∀ o, (w.alloc o).cell? ⟨b, 0, none⟩ = some (.string q.text) := fun o => (World.cell?_of_block (w := w) (heap_alloc_old w o (World.block_lt_of_cell? w _ c1))).trans c1
  have HF := hid (fun W => (show Calls Tryd.prog 41 #[.string q.text] W fun e w' => e = .returned (.tuple #[.string (upG f), .bool true]) ∧ W = w' from by
    have := sourceForm_any q.text W
    rw [frmV, hf] at this; exact this))
  have hFs := upG_size f
  have HFG := hid (fun i c h hi => upG_get f i c h hi)
  obtain ⟨F, hF⟩ : ∃ F, upG f = F := ⟨_, rfl⟩
  rw [hF] at HF hFs HFG
  rw [hfl, hn] at hFs
  have f2 : ((F.size : Int) != (n : Int)) = false := by simp [hFs]
  have f3 : F.size ≤ 3 := by omega
  have d0 : ((n : Int) + 1 == 0) = false := beq_eq_false_iff_ne.2 (by omega)
  have HFS := hid hFs
  have HR := hid hR
  have HN := hid hn
  have HFL := hid hfl
  have HA := hid hA
  have HB := hid hB
  have HPS := hid hps
  have HIH := hid ih
  have HSZ := hid hsz
  have HK := hid hk
  have hFle : n ≤ F.size := by omega
  clear hA hB hps ih hsz hk hR hn hfl hq hFs hF c1 hf
  go_enter Tryd.func31, Tryd.ntmps31
  go_wp2_with (go_at_call 41; refine (HF.out _).mono ?_; rintro e w2 ⟨rfl, rfl⟩)
  go_loopw [48] (fun u wr => ∃ (i : Nat) (st : Sst), i ≤ n ∧ u = .int .i64 (i : Int) ∧ B7 wr (w.heap.size + 1) q.text st ∧ Below w.heap.size w wr ∧ w.heap.size + 2 ≤ wr.heap.size ∧ Hid (addL (f.drop i) (qs.drop i) ((qs.map Tree.sx).drop i) st = R) ∧ st.ks.length ≤ i) (fun u _ => n - (intOf u).toNat)
  case atStart =>
    refine ⟨0, Sst.none, Nat.zero_le _, rfl, ?_, ((Below.refl _ _).alloc (Nat.le_refl _) _).alloc (by simp) _, by simp, by show _ = _; rw [List.drop_zero, List.drop_zero, List.drop_zero]; exact HR.out, by simp [Sst.none]⟩
    exact ⟨_, _, _, _, _, B7At.start (w.alloc (.cells #[.string ByteArray.empty, .slice (some ⟨b, 0, none⟩) (n + 1) cap] 55)) q.text (w.heap.size + 1) (by simp)⟩
  case round =>
    obtain ⟨i, st, hi, rfl, hbld, hbel, hz, hparts, hlen2⟩ := hrel
    by_cases hlt : i < n
    · obtain ⟨p, hp⟩ : ∃ p, qs[i]? = some p := ⟨_, List.getElem?_eq_getElem (by rw [HN.out]; exact hlt)⟩
      obtain ⟨g, hcc⟩ : ∃ g, f[i]? = some g := ⟨_, List.getElem?_eq_getElem (by rw [HFL.out, HN.out]; exact hlt)⟩
      have hiF : i < F.size := by omega
      have hFc := HFG.out i g hcc hiF
      have kw : Kept w0 wr := HK.out.below hbel hw
      have hwr : w0.heap.size ≤ wr.heap.size := by omega
      have ca : wr.cell? ⟨b, 2 + i * 2, none⟩ = some (.string (A (i + 1)).a) := by
        have := kw.cell (HA.out (i + 1) (by omega)); rwa [show (i + 1) * 2 = 2 + i * 2 by omega] at this
      have cb : wr.cell? ⟨b, 2 + i * 2 + 1, none⟩ = some (.slice (A (i + 1)).p (A (i + 1)).l (A (i + 1)).c) := by
        have := kw.cell (HB.out (i + 1) (by omega)); rwa [show (i + 1) * 2 = 2 + i * 2 by omega] at this
      have hpt : (q :: qs)[i + 1]? = some p := by simpa using hp
      have HC := hid (fun W (hb : B7 W (w.heap.size + 1) q.text st) (hk : Kept w0 W) (hs : w0.heap.size ≤ W.heap.size) => by
        have := addPart7_any (HPS.out (i + 1) p hpt) (HSZ.out (i + 1) p hpt).1 (HSZ.out (i + 1) p hpt).2 (HIH.out (i + 1) p hpt) (w.heap.size + 1) q.text st W hb hk hs (by omega) g
        rw [← hFc] at this
        exact this)
      have hstep : addL (f.drop i) (qs.drop i) ((qs.map Tree.sx).drop i) st = match add7 g p p.sx st with
          | some st' => addL (f.drop (i + 1)) (qs.drop (i + 1)) ((qs.map Tree.sx).drop (i + 1)) st'
          | none => none := by
        have e1 := List.getElem?_eq_some_iff.1 hp
        have e2 := List.getElem?_eq_some_iff.1 hcc
        have e3 : (qs.map Tree.sx)[i]? = some p.sx := by rw [List.getElem?_map, hp]; rfl
        have e4 := List.getElem?_eq_some_iff.1 e3
        rw [List.drop_eq_getElem_cons e1.1, List.drop_eq_getElem_cons e2.1, List.drop_eq_getElem_cons e4.1, e1.2, e2.2, e4.2, addL_cons]
        cases add7 g p p.sx st <;> rfl
      rw [hparts.out] at hstep
      have HB2 := hid (fun o => (hbld.under ((Below.refl wr.heap.size wr).alloc (Nat.le_refl _) o).drew))
      have HK2 := hid (fun o => kw.below ((Below.refl wr.heap.size wr).alloc (Nat.le_refl _) o).drew hwr)
      have HBE := hid hbel
      cases hO : add7 g p p.sx st with
      | none =>
        rw [hO] at hstep HC
        have HRN := hid (show R = none from hstep)
        clear hstep hparts hbld hbel kw hp hcc hFc hpt hO
        go_wp2_with fail
        go_region_with (go_at_call 42; refine (HC.out _ (show B7 (wr.alloc _).drew _ _ _ from HB2.out _) (show Kept w0 (wr.alloc _).drew from HK2.out _) (show w0.heap.size ≤ (wr.alloc _).drew.heap.size by simp; omega)).mono ?_; rintro e w2 hp2; obtain ⟨rfl, hb2⟩ := hp2.none; have HBL := hid hb2; clear hp2 hb2)
        all_goals
          go_wp2_with fail
          go_ret2
          rw [HRN.out]
          exact x7_none ((HBE.out.alloc (by omega) _).drew.trans (HBL.out.mono (by omega)))
      | some st' =>
        rw [hO] at hstep HC
        have HRS := hid hstep.symm
        have hal := add7_len hO
        clear hstep hparts hbld hbel kw hp hcc hFc hpt hO
        go_wp2_with fail
        go_region_with (go_at_call 42; refine (HC.out _ (show B7 (wr.alloc _).drew _ _ _ from HB2.out _) (show Kept w0 (wr.alloc _).drew from HK2.out _) (show w0.heap.size ≤ (wr.alloc _).drew.heap.size by simp; omega)).mono ?_; rintro e w2 hp2; obtain ⟨rfl, hb2, hbl2⟩ := hp2.some; have HBL := hid hb2; have HBN := hid hbl2; clear hp2 hb2 hbl2)
        all_goals
          go_wp2_with fail
          go_roundw
          case rel =>
            have hz2 := HBL.out.size
            simp at hz2
            exact ⟨i + 1, st', by omega, by go_num, HBN.out, (HBE.out.alloc (by omega) _).drew.trans (HBL.out.mono (by omega)), by omega, HRS, by omega⟩
          case measure => simp [intOf]; omega
    · have hin : i = n := by omega
      have hRe : R = some st := by
        rw [← hparts.out, hin, List.drop_of_length_le (by rw [HFL.out, HN.out]; exact Nat.le_refl _), List.drop_of_length_le (by rw [HN.out]; exact Nat.le_refl _), List.drop_of_length_le (by rw [List.length_map, HN.out]; exact Nat.le_refl _)]
        rfl
      have HRE := hid hRe
      have HBD := hid hbld
      have HBE := hid hbel
      clear hin hRe hparts hbld hbel
      go_wp2_with fail
      go_ret2
      obtain ⟨e, h0, h1, h2, h3, h4, h5⟩ := HOK.out st HRE.out
      rw [HRE.out, Option.bind_some, h0]
      exact x7_some HBE.out (HBD.out.done (by omega) h1 h2 h3 h4 h5)

/-- THE PROGRAM's READING OF A PHRASE AS A SOURCE EXPRESSION. -/
theorem sourceOf_any {w0 : World} {S : Nat → Prop} {t : Tree} {h : Hd} (ht : TIn w0 S t h) : t.wt ≤ 12000 → t.write.length ≤ 12000 → Ask7 w0 t h := by
  induction ht with
  | atom s hne hm => intro _ hwl; exact source_atom w0 s (by have : s.size ≤ 12000 := Nat.le_trans (text_le (.atom s)) hwl; omega)
  | node ps b cap A hp hl hc hS hA hB hps ih =>
    intro hwt hwl w hk hw
    obtain ⟨q, qs, rfl⟩ : ∃ q qs, ps = q :: qs := by cases ps with | nil => simp at hp | cons q qs => exact ⟨q, qs, rfl⟩
    rw [Tree.wt] at hwt
    have hq := (hps 0 q rfl).text
    have hlen := wts_length (q :: qs)
    simp only [List.length_cons] at hl hA hB hlen
    have c0 : _ := hA 0 (by omega)
    have hsz2 : ∀ (i : Nat) (p : Tree), (q :: qs)[i]? = some p → p.wt ≤ 12000 ∧ p.write.length ≤ 12000 := fun i p h => ⟨by have := wt_part _ i p h; omega, Nat.le_trans (part_le h) hwl⟩
    by_cases hno : ∀ f, frm q.text.toList = some f → f.length ≠ qs.length
    · exact source_no rfl hl hc (by omega) hq (by simpa using c0) w hk hno
    · have ⟨f, hf⟩ := Classical.not_forall.1 hno
      have ⟨hf1, hf2⟩ := Classical.not_imp.1 hf
      have hfl := Classical.not_not.1 hf2
      by_cases hn0 : qs.length = 0
      · have hqs : qs = [] := List.eq_nil_of_length_eq_zero hn0
        subst hqs
        have hf0 : f = [] := List.eq_nil_of_length_eq_zero hfl
        subst hf0
        exact source_nil hl hc hq (by simpa using c0) w hk hf1
      · exact source_go rfl hn0 hl hc hq (fun i p h => ⟨(hsz2 i p h).1, Nat.le_trans (text_le p) (hsz2 i p h).2⟩) hA hB hps (fun i p h => ih i p h (hsz2 i p h).1 (hsz2 i p h).2) w hk hw hf1 hfl
end Go.Proofs.YtelbkenggonakaaDoor
