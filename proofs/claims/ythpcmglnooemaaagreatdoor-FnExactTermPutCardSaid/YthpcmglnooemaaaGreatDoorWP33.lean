/- Merged: PutY, PutZ. -/
import Derived.Test.YthpcmglnooemaaaGreatDoorWP15
import Derived.Test.YthpcmglnooemaaaGreatDoorWP32
import Derived.Test.YthpcmglnooemaaaGreatDoorWP28
import Derived.Test.YthpcmglnooemaaaGreatDoorWP26
import Derived.Test.YthpcmglnooemaaaGreatDoorWP11
namespace Go.Proofs.YthpcmglnooemaaaGreatDoor
open Go.RowKit

mutual
theorem wt_write : ∀ t : Tree, t.wk → t.wt ≤ t.write.length
  | .atom s, h => by
    rw [Tree.wk] at h
    rw [Tree.wt, Tree.write]
    have : s.data.toList.length ≠ 0 := by simpa using h.1
    omega
  | .node [], h => by rw [Tree.wk] at h; exact absurd rfl h.1
  | .node (p :: ps), h => by
    rw [Tree.wk, Tree.wks] at h
    have h1 := wt_write p h.2.1
    have h2 := wts_write ps h.2.2
    rw [Tree.wt, Tree.wts, Tree.write]
    simp only [List.length_cons, List.length_append, List.length_nil]
    omega
theorem wts_write : ∀ ps : List Tree, Tree.wks ps → Tree.wts ps ≤ (Tree.writes ps).length
  | [], _ => by simp [Tree.wts]
  | p :: ps, h => by
    rw [Tree.wks] at h
    have h1 := wt_write p h.1
    have h2 := wts_write ps h.2
    rw [Tree.wts, Tree.writes]
    simp only [List.length_cons, List.length_append]
    omega
end
theorem put_frame2 {w w1 w2 : World} {o1 o2 : Obj} (h1 : Below w.heap.size w w1) (h2 : Below (w1.alloc o1).heap.size (w1.alloc o1) w2) : Below w.heap.size w (w2.alloc o2) := by
  have z1 := h1.size
  have z2 := h2.size
  simp at z2
  exact ((h1.alloc z1 _).trans (h2.mono (by simp; omega))).alloc (by omega) _
theorem put_frame3 {w w1 w2 w5 w6 w7 w8 : World} {o1 : Obj} (h1 : Below w.heap.size w w1) (h2 : Below (w1.alloc o1).heap.size (w1.alloc o1) w2) (h5 : Below w2.heap.size w2 w5) (h6 : Below w5.heap.size w5 w6) (h7 : Below w6.heap.size w6 w7) (h8 : Below w7.heap.size w7 w8) : Below w.heap.size w w8 := by
  have z1 := h1.size
  have z2 := h2.size
  have z5 := h5.size
  have z6 := h6.size
  have z7 := h7.size
  simp at z2
  exact ((h1.alloc z1 _).trans (h2.mono (by simp; omega))).trans ((h5.mono (by omega)).trans ((h6.mono (by omega)).trans ((h7.mono (by omega)).trans (h8.mono (by omega)))))
/-- What the model finds of the tree that put makes. -/
theorem put_tree {s x y : ByteArray} {t vt : Tree} {m v : Tm} (h1 : readTm s = some m) (h2 : readTm y = some v) (hp : parse s = some t) (hvp : parse y = some vt) (ht : t.tm [] = some m) (hvt : vt.tm [] = some v) (h : nameB x.toList = true ∧ v.isVal = true ∧ v.free.length = 0) :
    (Tree.put x.toList vt t).write.length ≤ 400000000 ∧ (Tree.put x.toList vt t).wt ≤ 400000000 ∧ (Tree.put x.toList vt t).txt = mkT (Tm.put x.toList v m) ∧
    sortOf (Tree.put x.toList vt t).txt = (if (limOf (Tm.put x.toList v m)).isSome = true then vS (Tm.put x.toList v m).isVal else ByteArray.empty) := by
  obtain ⟨_, _, _, _, hms⟩ := readTm_inv h1
  obtain ⟨_, _, _, _, hvs⟩ := readTm_inv h2
  have hf : vt.free [] = [] := by rw [← tm_free vt [] v hvt]; exact List.length_eq_zero_iff.1 h.2.2
  have hT := (put_tm h.1 h.2.1 (closed_all hvt hf) t [] m ht).1 (by simp [hasB])
  have hwk := put_wk (s := x.toList) (parse_wk hvp).1 t (parse_wk hp).1
  have hz := tm_size _ _ _ hT
  have hl := tm_wlen _ _ _ hT
  have hw := tm_write _ _ _ hT
  have h3 := tmput_size x.toList v m
  have h4 := Nat.mul_le_mul hms hvs
  have h5 := wt_write _ hwk
  have h6 : (Tree.put x.toList vt t).txt = mkT (Tm.put x.toList v m) := by rw [Tree.txt, mkT, hw]
  refine ⟨by omega, by omega, h6, ?_⟩
  rw [sortOf, readTm_txt hwk hT, h6]
  unfold limOf
  by_cases e1 : (Tm.put x.toList v m).size ≤ 1500
  · cases e2 : parse (mkT (Tm.put x.toList v m)) with
    | none => rw [if_neg (by simp), if_pos e1]; rfl
    | some u => rw [if_pos ⟨by simp, e1⟩, if_pos e1]; simp only [Option.isSome_some, if_true]; show srtS (some (Tm.put x.toList v m).isVal) = vS (Tm.put x.toList v m).isVal; cases (Tm.put x.toList v m).isVal <;> rfl
  · rw [if_neg (fun e => e1 e.2), if_neg e1]; rfl

theorem limOf_eq {m : Tm} {u : ByteArray} (h : limOf m = some u) : u = mkT m := by
  unfold limOf at h
  split at h
  · split at h
    · exact (Option.some.inj h).symm
    · simp at h
  · simp at h
theorem vS_some (b : Bool) : (vS b).toList.isEmpty = false := by cases b <;> (apply isEmpty_not; decide)
set_option maxRecDepth 100000 in
set_option maxHeartbeats 2000000 in
theorem specTermPut_any (s x y : ByteArray) (hs : s.size ≤ 400000000) (hx : x.size ≤ 400000000) (hy : y.size ≤ 400000000) (w : World) : Calls Tryz.prog 36 #[.string s, .string x, .string y] w (OptPost (putOf s x y) w) := by
  have HC1 := hid (fun W => l2Term_any s hs W)
  have HC2 := hid (fun W => l2Term_any y hy W)
  have HNM := hid (fun W => l2Name_any x hx W)
  have hsv : (strV.toList == [118, 97, 108, 117, 101]) = true := by rw [strV_toList]; rfl
  have hsc : (strC.toList == [118, 97, 108, 117, 101]) = false := by rw [strC_toList]; rfl
  cases ht1 : termTree s with
  | none =>
    have HT1 := hid ht1
    rw [putOf_none1 (termTree_none ht1)]
    cases ht2 : termTree y with
    | none =>
      have HT2 := hid ht2
      clear ht1 ht2
      go_enter Tryz.func36, Tryz.ntmps36
      go_wp2_with (first
        | (go_at_call 44; first | (have _ := hb1; refine (HC2.out _).mono ?_; rintro e w2 hp2; rw [HT2.out] at hp2; obtain ⟨qa, qp, ql, qc, rfl, hql, hb2⟩ := hp2.none; clear hp2) | (refine (HC1.out _).mono ?_; rintro e w1 hp1; rw [HT1.out] at hp1; obtain ⟨pa, pp, pl, pc, rfl, hpl, hb1⟩ := hp1.none; clear hp1)))
      go_ret2
      exact ⟨rfl, put_frame2 hb1 hb2⟩
    | some vt =>
      have HT2 := hid ht2
      clear ht1 ht2
      go_enter Tryz.func36, Tryz.ntmps36
      go_wp2_with (first
        | (go_at_call 44; first | (have _ := hb1; refine (HC2.out _).mono ?_; rintro e w2 hp2; rw [HT2.out] at hp2; obtain ⟨qa, qp, ql, qc, rfl, hb2, htr2⟩ := hp2.some; have HTR2 := hid htr2; clear hp2 htr2) | (refine (HC1.out _).mono ?_; rintro e w1 hp1; rw [HT1.out] at hp1; obtain ⟨pa, pp, pl, pc, rfl, hpl, hb1⟩ := hp1.none; clear hp1)))
      go_ret2
      exact ⟨rfl, put_frame2 hb1 hb2⟩
  | some t =>
    have HT1 := hid ht1
    cases ht2 : termTree y with
    | none =>
      have HT2 := hid ht2
      rw [putOf_none2 (termTree_none ht2)]
      clear ht1 ht2
      cases hn : nameB x.toList with
      | false =>
        rw [hn] at HNM
        go_enter Tryz.func36, Tryz.ntmps36
        go_wp2_with (first
          | (go_at_call 49; have _ := hb2; refine (HNM.out _).mono ?_; rintro e w3 ⟨rfl, rfl⟩)
          | (go_at_call 44; first | (have _ := hb1; refine (HC2.out _).mono ?_; rintro e w2 hp2; rw [HT2.out] at hp2; obtain ⟨qa, qp, ql, qc, rfl, hql, hb2⟩ := hp2.none; clear hp2) | (refine (HC1.out _).mono ?_; rintro e w1 hp1; rw [HT1.out] at hp1; obtain ⟨pa, pp, pl, pc, rfl, hb1, htr1⟩ := hp1.some; have HTR1 := hid htr1; clear hp1 htr1)))
        go_ret2
        exact ⟨rfl, put_frame2 hb1 hb2⟩
      | true =>
        rw [hn] at HNM
        go_enter Tryz.func36, Tryz.ntmps36
        go_wp2_with (first
          | (go_at_call 49; have _ := hb2; refine (HNM.out _).mono ?_; rintro e w3 ⟨rfl, rfl⟩)
          | (go_at_call 44; first | (have _ := hb1; refine (HC2.out _).mono ?_; rintro e w2 hp2; rw [HT2.out] at hp2; obtain ⟨qa, qp, ql, qc, rfl, hql, hb2⟩ := hp2.none; clear hp2) | (refine (HC1.out _).mono ?_; rintro e w1 hp1; rw [HT1.out] at hp1; obtain ⟨pa, pp, pl, pc, rfl, hb1, htr1⟩ := hp1.some; have HTR1 := hid htr1; clear hp1 htr1)))
        go_ret2
        exact ⟨rfl, put_frame2 hb1 hb2⟩
    | some vt =>
      have HT2 := hid ht2
      obtain ⟨hpt, hso, _, m, hm, htm⟩ := termTree_some ht1
      obtain ⟨hpv, hsov, _, v, hmv, hvtm⟩ := termTree_some ht2
      have hwtv := parse_wt hpv
      have hokv := hid (parse_ok hpv)
      have hvv : vt.srt = some v.isVal := by rw [← tm_isVal vt [], hvtm]; rfl
      have hfr := tm_free vt [] v hvtm
      cases hn : nameB x.toList with
      | false =>
        rw [hn] at HNM
        rw [putOf_no hm hmv (fun e => by rw [hn] at e; cases e.1)]
        clear ht1 ht2 hm hmv
        go_enter Tryz.func36, Tryz.ntmps36
        go_wp2_with (first
          | (go_at_call 49; have _ := hb2; refine (HNM.out _).mono ?_; rintro e w3 ⟨rfl, rfl⟩)
          | (go_at_call 44; first | (have _ := hb1; refine (HC2.out _).mono ?_; rintro e w2 hp2; rw [HT2.out] at hp2; obtain ⟨qa, qp, ql, qc, rfl, hb2, htr2⟩ := hp2.some; have HTR2 := hid htr2; clear hp2 htr2) | (refine (HC1.out _).mono ?_; rintro e w1 hp1; rw [HT1.out] at hp1; obtain ⟨pa, pp, pl, pc, rfl, hb1, htr1⟩ := hp1.some; have HTR1 := hid htr1; clear hp1 htr1)))
        go_ret2
        exact ⟨rfl, put_frame2 hb1 hb2⟩
      | true =>
        rw [hn] at HNM
        cases hv : v.isVal with
        | false =>
          rw [putOf_no hm hmv (fun e => by rw [hv] at e; cases e.2.1)]
          have HSO := hid (fun (w0 : World) (S : Nat → Prop) (h : Hd) (ht : TIn w0 S vt h) (W : World) (hk : Kept w0 W) (hs : w0.heap.size ≤ W.heap.size) => (show Calls Tryz.prog 45 #[.agg #[.string h.a, .slice h.p h.l h.c]] W fun e w' => e = .returned (.string strC) ∧ Below W.heap.size W w' from by have := l2Sort_any ht hwtv hokv.out W hk hs; rw [hvv, hv] at this; exact this))
          clear ht1 ht2 hm hmv
          go_enter Tryz.func36, Tryz.ntmps36
          go_wp2_with (first
            | (go_at_call 45; have _ := hb2; refine (HSO.out _ _ _ HTR2.out _ ((Kept.refl _).alloc (Nat.le_refl _) _) (by simp)).mono ?_; rintro e w4 ⟨rfl, hb4⟩; have HB4 := hid (show Below w2.heap.size w2 w4 from ((Below.refl w2.heap.size w2).alloc (Nat.le_refl _) _).trans (hb4.mono (by simp))); have zz2 := hb2.size; have zz4 := hb4.size; simp at zz2 zz4; have HV4 := hid ((hb4.block w2.heap.size (by simp)).trans (heap_new w2 (.cells #[.string qa, .slice qp ql qc] 49) w2.heap.size rfl)); have HT4 := hid ((hb4.block w1.heap.size (by simp; omega)).trans ((heap_alloc_old w2 _ (by omega)).trans ((hb2.block w1.heap.size (by simp)).trans (heap_new w1 (.cells #[.string pa, .slice pp pl pc] 49) w1.heap.size rfl)))); have kv4 := cells_of_pair HV4.out)
            | (go_at_call 49; have _ := hb2; refine (HNM.out _).mono ?_; rintro e w3 ⟨rfl, rfl⟩)
            | (go_at_call 44; first | (have _ := hb1; refine (HC2.out _).mono ?_; rintro e w2 hp2; rw [HT2.out] at hp2; obtain ⟨qa, qp, ql, qc, rfl, hb2, htr2⟩ := hp2.some; have HTR2 := hid htr2; clear hp2 htr2) | (refine (HC1.out _).mono ?_; rintro e w1 hp1; rw [HT1.out] at hp1; obtain ⟨pa, pp, pl, pc, rfl, hb1, htr1⟩ := hp1.some; have HTR1 := hid htr1; clear hp1 htr1)))
          go_ret2
          exact ⟨rfl, (put_frame2 (o2 := .cells #[.string qa, .slice qp ql qc] 49) hb1 hb2).trans (hb4.mono (put_frame2 (o2 := .cells #[.string qa, .slice qp ql qc] 49) hb1 hb2).size)⟩
        | true =>
          have HSO := hid (fun (w0 : World) (S : Nat → Prop) (h : Hd) (ht : TIn w0 S vt h) (W : World) (hk : Kept w0 W) (hs : w0.heap.size ≤ W.heap.size) => (show Calls Tryz.prog 45 #[.agg #[.string h.a, .slice h.p h.l h.c]] W fun e w' => e = .returned (.string strV) ∧ Below W.heap.size W w' from by have := l2Sort_any ht hwtv hokv.out W hk hs; rw [hvv, hv] at this; exact this))
          by_cases hf : v.free.length = 0
          · have HCL := hid (fun (w0 : World) (S : Nat → Prop) (h : Hd) (ht : TIn w0 S vt h) (W : World) (hk : Kept w0 W) (hs : w0.heap.size ≤ W.heap.size) => (show Calls Tryz.prog 61 #[.agg #[.string h.a, .slice h.p h.l h.c]] W fun e w' => e = .returned (.bool true) ∧ Below W.heap.size W w' from by have := l2Closed_any ht hwtv hokv.out hsov W hk hs; rw [← hfr, decide_eq_true hf] at this; exact this))
            obtain ⟨hT1, hT2, hT3, hT4⟩ := put_tree hm hmv hpt hpv htm hvtm ⟨hn, hv, hf⟩
            rw [putOf_some hm hmv ⟨hn, hv, hf⟩]
            have HPU := hid (fun (w0 : World) (S S2 : Nat → Prop) (h vh : Hd) (ht : TIn w0 S t h) (hv : TIn w0 S2 vt vh) => l2Put_any x ht hv hso)
            unfold PutAsk PutTPost at HPU
            obtain ⟨T, hTT⟩ : ∃ T, Tree.put x.toList vt t = T := ⟨_, rfl⟩
            rw [hTT] at HPU hT1 hT2 hT3 hT4
            have HTX := hid (fun (w0 : World) (S : Nat → Prop) (h : Hd) (ht : TIn w0 S T h) (W : World) (hk : Kept w0 W) (hs : w0.heap.size ≤ W.heap.size) => l1Text_big ht hT1 hT2 W hk hs)
            have hT5 := txt_size T
            have HTS := hid (fun W => specTermSort_any T.txt (by omega) W)
            rw [hT4] at HTS
            rw [hT3] at HTX HTS hT5
            have hea : ByteArray.empty.toList.isEmpty = true := isEmpty_of _ rfl
            have heb := vS_some (Tm.put x.toList v m).isVal
            obtain ⟨vb, hvb⟩ : ∃ vb, vS (Tm.put x.toList v m).isVal = vb := ⟨_, rfl⟩
            rw [hvb] at HTS heb
            obtain ⟨M, hM⟩ : ∃ M, mkT (Tm.put x.toList v m) = M := ⟨_, rfl⟩
            cases hl : limOf (Tm.put x.toList v m) with
            | none =>
              rw [hl] at HTS
              simp only [Option.isSome_none, Bool.false_eq_true, if_false] at HTS
              rw [hM] at HTX HTS
              clear ht1 ht2 hm hmv hfr hvb hT3 hT4 hTT hl hM
              go_enter Tryz.func36, Tryz.ntmps36
              go_wp2_with (first
                | (go_at_call 14; have _ := hb7; refine (HTS.out _).mono ?_; rintro e w8 ⟨rfl, hb8⟩)
                | (go_at_call 54; have _ := hb6; refine (HTX.out _ _ _ HTI6.out _ (Kept.refl _) (Nat.le_refl _)).mono ?_; rintro e w7 ⟨rfl, hb7⟩)
                | (go_at_call 64; have _ := hb5; refine (HPU.out _ _ _ _ _ (HTR1.out.keep (fun k _ hl => (hb2.block k (by simp; omega)).trans (heap_alloc_old w1 _ hl)) (fun _ hk _ => hk)) HTR2.out _ (Kept.of_below HB5.out (Nat.le_refl _)) HB5.out.size).mono ?_; rintro e w6 ⟨h6, rfl, hti6, hb6⟩; have HTI6 := hid hti6; clear hti6)
                | (go_at_call 61; have _ := hb4; refine (HCL.out _ _ _ HTR2.out _ (Kept.of_below HB4.out (Nat.le_refl _)) HB4.out.size).mono ?_; rintro e w5 ⟨rfl, hb5⟩; have HB5 := hid (HB4.out.trans (hb5.mono HB4.out.size)); have kv5 := cells_of_pair ((hb5.block w2.heap.size (by omega)).trans HV4.out); have kt5 := cells_of_pair ((hb5.block w1.heap.size (by omega)).trans HT4.out))
                | (go_at_call 45; have _ := hb2; refine (HSO.out _ _ _ HTR2.out _ ((Kept.refl _).alloc (Nat.le_refl _) _) (by simp)).mono ?_; rintro e w4 ⟨rfl, hb4⟩; have HB4 := hid (show Below w2.heap.size w2 w4 from ((Below.refl w2.heap.size w2).alloc (Nat.le_refl _) _).trans (hb4.mono (by simp))); have zz2 := hb2.size; have zz4 := hb4.size; simp at zz2 zz4; have HV4 := hid ((hb4.block w2.heap.size (by simp)).trans (heap_new w2 (.cells #[.string qa, .slice qp ql qc] 49) w2.heap.size rfl)); have HT4 := hid ((hb4.block w1.heap.size (by simp; omega)).trans ((heap_alloc_old w2 _ (by omega)).trans ((hb2.block w1.heap.size (by simp)).trans (heap_new w1 (.cells #[.string pa, .slice pp pl pc] 49) w1.heap.size rfl)))); have kv4 := cells_of_pair HV4.out)
                | (go_at_call 49; have _ := hb2; refine (HNM.out _).mono ?_; rintro e w3 ⟨rfl, rfl⟩)
                | (go_at_call 44; first | (have _ := hb1; refine (HC2.out _).mono ?_; rintro e w2 hp2; rw [HT2.out] at hp2; obtain ⟨qa, qp, ql, qc, rfl, hb2, htr2⟩ := hp2.some; have HTR2 := hid htr2; clear hp2 htr2) | (refine (HC1.out _).mono ?_; rintro e w1 hp1; rw [HT1.out] at hp1; obtain ⟨pa, pp, pl, pc, rfl, hb1, htr1⟩ := hp1.some; have HTR1 := hid htr1; clear hp1 htr1)))
              go_ret2
              have z2 := HB5.out.size; have z6 := hb6.size; have z7 := hb7.size
              exact ⟨rfl, put_frame3 hb1 hb2 HB5.out hb6 hb7 hb8⟩
            | some u =>
              obtain rfl := limOf_eq hl
              rw [hl] at HTS
              simp only [Option.isSome_some, if_true] at HTS
              rw [hM] at HTX HTS ⊢
              clear ht1 ht2 hm hmv hfr hvb hT3 hT4 hTT hl hM
              go_enter Tryz.func36, Tryz.ntmps36
              go_wp2_with (first
                | (go_at_call 14; have _ := hb7; refine (HTS.out _).mono ?_; rintro e w8 ⟨rfl, hb8⟩)
                | (go_at_call 54; have _ := hb6; refine (HTX.out _ _ _ HTI6.out _ (Kept.refl _) (Nat.le_refl _)).mono ?_; rintro e w7 ⟨rfl, hb7⟩)
                | (go_at_call 64; have _ := hb5; refine (HPU.out _ _ _ _ _ (HTR1.out.keep (fun k _ hl => (hb2.block k (by simp; omega)).trans (heap_alloc_old w1 _ hl)) (fun _ hk _ => hk)) HTR2.out _ (Kept.of_below HB5.out (Nat.le_refl _)) HB5.out.size).mono ?_; rintro e w6 ⟨h6, rfl, hti6, hb6⟩; have HTI6 := hid hti6; clear hti6)
                | (go_at_call 61; have _ := hb4; refine (HCL.out _ _ _ HTR2.out _ (Kept.of_below HB4.out (Nat.le_refl _)) HB4.out.size).mono ?_; rintro e w5 ⟨rfl, hb5⟩; have HB5 := hid (HB4.out.trans (hb5.mono HB4.out.size)); have kv5 := cells_of_pair ((hb5.block w2.heap.size (by omega)).trans HV4.out); have kt5 := cells_of_pair ((hb5.block w1.heap.size (by omega)).trans HT4.out))
                | (go_at_call 45; have _ := hb2; refine (HSO.out _ _ _ HTR2.out _ ((Kept.refl _).alloc (Nat.le_refl _) _) (by simp)).mono ?_; rintro e w4 ⟨rfl, hb4⟩; have HB4 := hid (show Below w2.heap.size w2 w4 from ((Below.refl w2.heap.size w2).alloc (Nat.le_refl _) _).trans (hb4.mono (by simp))); have zz2 := hb2.size; have zz4 := hb4.size; simp at zz2 zz4; have HV4 := hid ((hb4.block w2.heap.size (by simp)).trans (heap_new w2 (.cells #[.string qa, .slice qp ql qc] 49) w2.heap.size rfl)); have HT4 := hid ((hb4.block w1.heap.size (by simp; omega)).trans ((heap_alloc_old w2 _ (by omega)).trans ((hb2.block w1.heap.size (by simp)).trans (heap_new w1 (.cells #[.string pa, .slice pp pl pc] 49) w1.heap.size rfl)))); have kv4 := cells_of_pair HV4.out)
                | (go_at_call 49; have _ := hb2; refine (HNM.out _).mono ?_; rintro e w3 ⟨rfl, rfl⟩)
                | (go_at_call 44; first | (have _ := hb1; refine (HC2.out _).mono ?_; rintro e w2 hp2; rw [HT2.out] at hp2; obtain ⟨qa, qp, ql, qc, rfl, hb2, htr2⟩ := hp2.some; have HTR2 := hid htr2; clear hp2 htr2) | (refine (HC1.out _).mono ?_; rintro e w1 hp1; rw [HT1.out] at hp1; obtain ⟨pa, pp, pl, pc, rfl, hb1, htr1⟩ := hp1.some; have HTR1 := hid htr1; clear hp1 htr1)))
              go_ret2
              exact ⟨rfl, put_frame3 hb1 hb2 HB5.out hb6 hb7 hb8⟩
          · rw [putOf_no hm hmv (fun e => hf e.2.2)]
            have HCL := hid (fun (w0 : World) (S : Nat → Prop) (h : Hd) (ht : TIn w0 S vt h) (W : World) (hk : Kept w0 W) (hs : w0.heap.size ≤ W.heap.size) => (show Calls Tryz.prog 61 #[.agg #[.string h.a, .slice h.p h.l h.c]] W fun e w' => e = .returned (.bool false) ∧ Below W.heap.size W w' from by have := l2Closed_any ht hwtv hokv.out hsov W hk hs; rw [← hfr, decide_eq_false hf] at this; exact this))
            clear ht1 ht2 hm hmv
            go_enter Tryz.func36, Tryz.ntmps36
            go_wp2_with (first
              | (go_at_call 61; have _ := hb4; refine (HCL.out _ _ _ HTR2.out _ (Kept.of_below HB4.out (Nat.le_refl _)) HB4.out.size).mono ?_; rintro e w5 ⟨rfl, hb5⟩; have HB5 := hid (HB4.out.trans (hb5.mono HB4.out.size)); have kv5 := cells_of_pair ((hb5.block w2.heap.size (by omega)).trans HV4.out); have kt5 := cells_of_pair ((hb5.block w1.heap.size (by omega)).trans HT4.out))
              | (go_at_call 45; have _ := hb2; refine (HSO.out _ _ _ HTR2.out _ ((Kept.refl _).alloc (Nat.le_refl _) _) (by simp)).mono ?_; rintro e w4 ⟨rfl, hb4⟩; have HB4 := hid (show Below w2.heap.size w2 w4 from ((Below.refl w2.heap.size w2).alloc (Nat.le_refl _) _).trans (hb4.mono (by simp))); have zz2 := hb2.size; have zz4 := hb4.size; simp at zz2 zz4; have HV4 := hid ((hb4.block w2.heap.size (by simp)).trans (heap_new w2 (.cells #[.string qa, .slice qp ql qc] 49) w2.heap.size rfl)); have HT4 := hid ((hb4.block w1.heap.size (by simp; omega)).trans ((heap_alloc_old w2 _ (by omega)).trans ((hb2.block w1.heap.size (by simp)).trans (heap_new w1 (.cells #[.string pa, .slice pp pl pc] 49) w1.heap.size rfl)))); have kv4 := cells_of_pair HV4.out)
              | (go_at_call 49; have _ := hb2; refine (HNM.out _).mono ?_; rintro e w3 ⟨rfl, rfl⟩)
              | (go_at_call 44; first | (have _ := hb1; refine (HC2.out _).mono ?_; rintro e w2 hp2; rw [HT2.out] at hp2; obtain ⟨qa, qp, ql, qc, rfl, hb2, htr2⟩ := hp2.some; have HTR2 := hid htr2; clear hp2 htr2) | (refine (HC1.out _).mono ?_; rintro e w1 hp1; rw [HT1.out] at hp1; obtain ⟨pa, pp, pl, pc, rfl, hb1, htr1⟩ := hp1.some; have HTR1 := hid htr1; clear hp1 htr1)))
            go_ret2
            exact ⟨rfl, put_frame3 hb1 hb2 HB5.out (Below.refl _ _) (Below.refl _ _) (Below.refl _ _)⟩
end Go.Proofs.YthpcmglnooemaaaGreatDoor

namespace Go.Proofs.YthpcmglnooemaaaGreatDoor
open Go.RowKit

set_option maxRecDepth 100000 in
set_option maxHeartbeats 1000000 in
theorem lawTermPut (s : ByteArray) (hs : s.size ≤ 9223372036854775807) (x : ByteArray) (hx : x.size ≤ 9223372036854775807) (y : ByteArray) (hy : y.size ≤ 9223372036854775807) (w : World) : Calls Tryz.prog 10 #[.string s, .string x, .string y] w fun e w' => e = .returned (.bool true) ∧ Below w.heap.size w w' := by
  by_cases h : s.size ≤ 1048576
  · by_cases h1 : x.size ≤ 1048576
    · by_cases h2 : y.size ≤ 1048576
      · have HA := hid (fun W => specTermPut_any s x y (by omega) (by omega) (by omega) W)
        have HB := hid (fun W => implTermPut_any s x y (by omega) (by omega) (by omega) W)
        unfold OptPost at HA HB
        generalize (putOf s x y).getD ByteArray.empty = r0 at HA HB
        generalize (putOf s x y).isSome = r1 at HA HB
        have q0 : (r0.toList == r0.toList) = true := by simp
        have q0b : (!r0.toList == r0.toList) = false := by simp
        have q1 : (r1 != r1) = false := by simp
        go_enter Tryz.func10, Tryz.ntmps10
        go_wp2_with (first | (go_at_call 36; refine (HA.out _).mono ?_; rintro e w1 ⟨rfl, hb1⟩) | (go_at_call 27; refine (HB.out _).mono ?_; rintro e w2 ⟨rfl, hb2⟩))
        go_ret
        exact ⟨rfl, hb1.trans (hb2.mono hb1.size)⟩
      · have h3 : 1048576 < y.size := by omega
        clear h2
        go_enter Tryz.func10, Tryz.ntmps10
        go_wp2
        go_ret
        exact ⟨rfl, Below.refl _ _⟩
    · have h3 : 1048576 < x.size := by omega
      clear h1
      go_enter Tryz.func10, Tryz.ntmps10
      go_wp2
      go_ret
      exact ⟨rfl, Below.refl _ _⟩
  · have h3 : 1048576 < s.size := by omega
    clear h
    go_enter Tryz.func10, Tryz.ntmps10
    go_wp2
    go_ret
    exact ⟨rfl, Below.refl _ _⟩
end Go.Proofs.YthpcmglnooemaaaGreatDoor
