/- The model's source expressions: l7Expr. -/
import Derived.Test.YtinlibkkbjfmeaaDoorSxS
namespace Go.Proofs.YtinlibkkbjfmeaaDoor
open Go.RowKit

set_option maxRecDepth 100000 in
set_option maxHeartbeats 1000000 in
theorem l7Expr_atom (s : ByteArray) (hne : s.size ≠ 0) (hm : s.size ≤ 400000000) (w : World) :
    Calls Tryd.prog 27 #[.agg #[.string s, .slice none 0 0]] w fun e w' => e = .returned (.bool (Tree.atom s).sx.isSome) ∧ Below w.heap.size w w' := by
  have he := isEmpty_not s hne
  have HN := hid (fun W => (l2Name_any s hm W).mono fun e w' h => (⟨h.1, h.2⟩ : _ ∧ W = w'))
  have HT := hid (show (Tree.atom s).sx = atomSx s by rw [Tree.sx])
  cases e0 : s.toList == [48] with
  | true =>
    have HQ := hid (show (Tree.atom s).sx.isSome = true by rw [HT.out, atomSx, if_pos (Or.inl (by simpa using e0))]; rfl)
    go_enter Tryd.func27, Tryd.ntmps27
    go_wp2_with fail
    go_ret
    exact ⟨ret_bool HQ.out.symm, (Below.refl _ _).alloc (Nat.le_refl _) _⟩
  | false =>
    cases e1 : s.toList == [49] with
    | true =>
      have HQ := hid (show (Tree.atom s).sx.isSome = true by rw [HT.out, atomSx, if_pos (Or.inr (by simpa using e1))]; rfl)
      go_enter Tryd.func27, Tryd.ntmps27
      go_wp2_with fail
      go_ret
      exact ⟨ret_bool HQ.out.symm, (Below.refl _ _).alloc (Nat.le_refl _) _⟩
    | false =>
      have HQ := hid (show (Tree.atom s).sx.isSome = nameB s.toList by
        rw [HT.out, atomSx, if_neg (fun h => by rcases h with h | h; (· simp [h] at e0); (· simp [h] at e1))]
        cases nameB s.toList <;> rfl)
      go_enter Tryd.func27, Tryd.ntmps27
      go_wp2_with (go_at_call 29; refine (HN.out _).mono ?_; rintro e w1 ⟨rfl, rfl⟩)
      go_ret
      exact ⟨ret_bool HQ.out.symm, (Below.refl _ _).alloc (Nat.le_refl _) _⟩

set_option maxRecDepth 100000 in
set_option maxHeartbeats 1000000 in
theorem l7Expr_get {q : Tree} {qs : List Tree} {b cap n : Nat} (hn : qs.length = n) (hn2 : n ≤ 12000) (w : World)
    (hh : ∀ o, Calls Tryd.prog 41 #[.agg #[.string ByteArray.empty, .slice (some ⟨b, 0, none⟩) (n + 1) cap]] (w.alloc o) fun e w' => e = .returned (.string q.text) ∧ Below (w.alloc o).heap.size (w.alloc o) w')
    (e0 : (q.text.toList == [103, 101, 116]) = true) :
    Calls Tryd.prog 27 #[.agg #[.string ByteArray.empty, .slice (some ⟨b, 0, none⟩) (n + 1) cap]] w fun e w' => e = .returned (.bool (Tree.node (q :: qs)).sx.isSome) ∧ Below w.heap.size w w' := by
  have HH := hid hh
  have hn3 : (n : Int) + 1 ≤ 12001 := by omega
  have HR := hid (show (Tree.node (q :: qs)).sx.isSome = ((n : Int) + 1 == 1) by
    have hf : frm q.text.toList = some [] := by rw [eq_t e0]; rfl
    rw [sx_isSome hf]
    cases qs with
    | nil => simp at hn; subst hn; rfl
    | cons p ps => simp at hn; simp only [addL]; symm; simp; omega)
  clear hh hn
  go_enter Tryd.func27, Tryd.ntmps27
  go_wp2_with (go_at_call 41; refine (HH.out _).mono ?_; rintro e w1 ⟨rfl, hb1⟩; have kc := cells_of_pair (block_below (heap_new w (.cells #[.string ByteArray.empty, .slice (some ⟨b, 0, none⟩) (n + 1) cap] 32) _ rfl) hb1 (by simp)))
  go_ret
  exact ⟨ret_bool HR.out.symm, ((Below.refl _ _).alloc (Nat.le_refl _) _).trans (hb1.mono (by simp))⟩

set_option maxRecDepth 100000 in
set_option maxHeartbeats 2000000 in
theorem l7Expr_no {q : Tree} {qs : List Tree} {b cap n : Nat} (hn : qs.length = n) (hn2 : n ≤ 12000) (w : World)
    (hh : ∀ o, Calls Tryd.prog 41 #[.agg #[.string ByteArray.empty, .slice (some ⟨b, 0, none⟩) (n + 1) cap]] (w.alloc o) fun e w' => e = .returned (.string q.text) ∧ Below (w.alloc o).heap.size (w.alloc o) w')
    (e0 : (q.text.toList == [103, 101, 116]) = false) (hno : ∀ f, frm q.text.toList = some f → f.length ≠ qs.length) :
    Calls Tryd.prog 27 #[.agg #[.string ByteArray.empty, .slice (some ⟨b, 0, none⟩) (n + 1) cap]] w fun e w' => e = .returned (.bool (Tree.node (q :: qs)).sx.isSome) ∧ Below w.heap.size w w' := by
  have HH := hid hh
  have HF := hid (fun W => l7Shape_any q.text W)
  have hn3 : (n : Int) + 1 ≤ 12001 := by omega
  have HR := hid (show (Tree.node (q :: qs)).sx.isSome = false by
    cases hf : frm q.text.toList with
    | none => rw [sx_none hf]; rfl
    | some f => rw [sx_isSome hf, addL_bad (hno f hf)]; rfl)
  have hsz : (shp7 q.text.toList).size = 0 ∨ (shp7 q.text.toList).size ≠ n ∧ (shp7 q.text.toList).size ≤ 3 := by
    unfold shp7
    rw [lowS_size]
    cases hf : frm q.text.toList with
    | none => exact Or.inl rfl
    | some f => exact Or.inr ⟨by rw [← hn]; exact hno f hf, frm_len hf⟩
  obtain ⟨F, hF⟩ : ∃ F, shp7 q.text.toList = F := ⟨_, rfl⟩
  rw [hF] at HF hsz
  clear hh hno hF hn
  by_cases he : F.size = 0
  · have f1 := isEmpty_of F he
    clear hsz he
    go_enter Tryd.func27, Tryd.ntmps27
    go_wp2_with (first | (go_at_call 41; refine (HH.out _).mono ?_; rintro e w1 ⟨rfl, hb1⟩; have kc := cells_of_pair (block_below (heap_new w (.cells #[.string ByteArray.empty, .slice (some ⟨b, 0, none⟩) (n + 1) cap] 32) _ rfl) hb1 (by simp))) | (go_at_call 42; refine (HF.out _).mono ?_; rintro e w2 ⟨rfl, rfl⟩))
    go_ret
    exact ⟨ret_bool HR.out.symm, ((Below.refl _ _).alloc (Nat.le_refl _) _).trans (hb1.mono (by simp))⟩
  · have f1 := isEmpty_not F he
    have f3 : F.size ≤ 3 := by omega
    have f2 : ((n : Int) + 1 != (F.size : Int) + 1) = true := bne_iff_ne.2 (by omega)
    clear hsz he
    go_enter Tryd.func27, Tryd.ntmps27
    go_wp2_with (first | (go_at_call 41; refine (HH.out _).mono ?_; rintro e w1 ⟨rfl, hb1⟩; have kc := cells_of_pair (block_below (heap_new w (.cells #[.string ByteArray.empty, .slice (some ⟨b, 0, none⟩) (n + 1) cap] 32) _ rfl) hb1 (by simp))) | (go_at_call 42; refine (HF.out _).mono ?_; rintro e w2 ⟨rfl, rfl⟩))
    go_ret
    exact ⟨ret_bool HR.out.symm, ((Below.refl _ _).alloc (Nat.le_refl _) _).trans (hb1.mono (by simp))⟩

set_option maxRecDepth 100000 in
set_option maxHeartbeats 8000000 in
theorem l7Expr_go {w0 : World} {S : Nat → Prop} {q : Tree} {qs : List Tree} {b cap n : Nat} {A : Nat → Hd} {f : List Fg} (hn : qs.length = n) (_hl : n + 1 ≤ cap) (hc : cap ≤ maxLen)
    (hsz : ∀ (i : Nat) (p : Tree), (q :: qs)[i]? = some p → p.size ≤ 12000 ∧ p.write.length ≤ 12000)
    (hA : ∀ i, i < n + 1 → w0.cell? ⟨b, i * 2, none⟩ = some (.string (A i).a)) (hB : ∀ i, i < n + 1 → w0.cell? ⟨b, i * 2 + 1, none⟩ = some (.slice (A i).p (A i).l (A i).c))
    (hps : ∀ (i : Nat) (p : Tree), (q :: qs)[i]? = some p → TIn w0 S p (A i))
    (ih : ∀ (i : Nat) (p : Tree), (q :: qs)[i]? = some p → ∀ W, Kept w0 W → w0.heap.size ≤ W.heap.size → Calls Tryd.prog 27 #[.agg #[.string (A i).a, .slice (A i).p (A i).l (A i).c]] W fun e w' => e = .returned (.bool p.sx.isSome) ∧ Below W.heap.size W w')
    (w : World) (hk : Kept w0 w) (hw : w0.heap.size ≤ w.heap.size)
    (hh : ∀ o, Calls Tryd.prog 41 #[.agg #[.string ByteArray.empty, .slice (some ⟨b, 0, none⟩) (n + 1) cap]] (w.alloc o) fun e w' => e = .returned (.string q.text) ∧ Below (w.alloc o).heap.size (w.alloc o) w')
    (e0 : (q.text.toList == [103, 101, 116]) = false) (hf : frm q.text.toList = some f) (hfl : f.length = qs.length) :
    Calls Tryd.prog 27 #[.agg #[.string ByteArray.empty, .slice (some ⟨b, 0, none⟩) (n + 1) cap]] w fun e w' => e = .returned (.bool (Tree.node (q :: qs)).sx.isSome) ∧ Below w.heap.size w w' := by
  obtain ⟨R, hR⟩ : ∃ R, addL f qs (qs.map Tree.sx) Sst.none = R := ⟨_, rfl⟩
  rw [sx_isSome hf, hR]
  have hn3 : n ≤ 3 := by rw [← hn, ← hfl]; exact frm_len hf
  have hn0 : n ≠ 0 := by
    intro e
    have : f = [] := List.eq_nil_of_length_eq_zero (by omega)
    subst this
    rw [frm_nil hf] at e0; simp at e0
  have hmc : cap ≤ 9223372036854775807 := by unfold maxLen at hc; omega
  have HH := hid hh
  have HF := hid (fun W => (show Calls Tryd.prog 42 #[.string q.text] W fun e w' => e = .returned (.string (lowS f)) ∧ W = w' from by
    have := l7Shape_any q.text W
    rw [shp7, hf] at this; exact this))
  have hFs := lowS_size f
  have HFG := hid (fun i c h hi => lowS_get f i c h hi)
  obtain ⟨F, hF⟩ : ∃ F, lowS f = F := ⟨_, rfl⟩
  rw [hF] at HF hFs HFG
  rw [hfl, hn] at hFs
  have f1 := isEmpty_not F (by omega)
  have f2 : ((n : Int) + 1 != (F.size : Int) + 1) = false := by simp [hFs]
  have f3 : F.size ≤ 3 := by omega
  have hFle : n ≤ F.size := by omega
  have hFge : F.size ≤ n := by omega
  have HR := hid hR
  have HN := hid hn
  have HFL := hid hfl
  have HA := hid hA
  have HB := hid hB
  have HPS := hid hps
  have HIH := hid ih
  have HSZ := hid hsz
  have HK := hid hk
  clear hA hB hps ih hsz hk hR hn hfl hf hFs hF hh
  go_enter Tryd.func27, Tryd.ntmps27
  go_wp2_with (first | (go_at_call 41; refine (HH.out _).mono ?_; rintro e w1 ⟨rfl, hb1⟩; have kc := cells_of_pair (block_below (heap_new w (.cells #[.string ByteArray.empty, .slice (some ⟨b, 0, none⟩) (n + 1) cap] 32) _ rfl) hb1 (by simp))) | (go_at_call 42; refine (HF.out _).mono ?_; rintro e w2 ⟨rfl, rfl⟩))
  go_loopw [5] (fun u wr => ∃ (i : Nat) (st : Sst), i ≤ n ∧ u = .int .i64 (i : Int) ∧ Hid (addL (f.drop i) (qs.drop i) ((qs.map Tree.sx).drop i) st = R) ∧ Below (w.heap.size + 1) (w.alloc (.cells #[.string ByteArray.empty, .slice (some ⟨b, 0, none⟩) (n + 1) cap] 32)) wr) (fun u _ => n - (intOf u).toNat)
  case atStart => exact ⟨0, Sst.none, Nat.zero_le _, rfl, by show _ = _; rw [List.drop_zero, List.drop_zero, List.drop_zero]; exact HR.out, hb1.mono (by simp)⟩
  case round =>
    obtain ⟨i, st, hi, rfl, hparts, hbel⟩ := hrel
    have hz := hbel.size
    simp at hz
    have kc2 := cells_of_pair (block_below (heap_new w (.cells #[.string ByteArray.empty, .slice (some ⟨b, 0, none⟩) (n + 1) cap] 32) w.heap.size rfl) hbel (by omega))
    have kw : Kept w0 wr := (HK.out.alloc hw _).below hbel (by omega)
    have hwr : w0.heap.size ≤ wr.heap.size := by omega
    by_cases hlt : i < n
    · obtain ⟨p, hp⟩ : ∃ p, qs[i]? = some p := ⟨_, List.getElem?_eq_getElem (by rw [HN.out]; exact hlt)⟩
      obtain ⟨g, hcc⟩ : ∃ g, f[i]? = some g := ⟨_, List.getElem?_eq_getElem (by rw [HFL.out, HN.out]; exact hlt)⟩
      have hiF : i < F.size := by omega
      have hFc := HFG.out i g hcc hiF
      have hpt : (q :: qs)[i + 1]? = some p := by simpa using hp
      obtain ⟨hp1, hp2⟩ := HSZ.out (i + 1) p hpt
      have d2 : i + 1 < n + 1 := by omega
      have ca := kw.cell (HA.out (i + 1) (by omega))
      have cb := kw.cell (HB.out (i + 1) (by omega))
      have hstep : addL (f.drop i) (qs.drop i) ((qs.map Tree.sx).drop i) st = match add7 g p p.sx st with
          | some st' => addL (f.drop (i + 1)) (qs.drop (i + 1)) ((qs.map Tree.sx).drop (i + 1)) st'
          | none => none := by
        have e1 := List.getElem?_eq_some_iff.1 hp
        have e2 := List.getElem?_eq_some_iff.1 hcc
        have e3 : (qs.map Tree.sx)[i]? = some p.sx := by rw [List.getElem?_map, hp]; rfl
        have e4 := List.getElem?_eq_some_iff.1 e3
        rw [List.drop_eq_getElem_cons e1.1, List.drop_eq_getElem_cons e2.1, List.drop_eq_getElem_cons e4.1, e1.2, e2.2, e4.2, addL_cons]
        cases add7 g p p.sx st <;> rfl
      rw [hparts.out] at hstep
      have KA := hid (fun o => hk_alloc kw hwr o)
      cases g with
      | e =>
        have hT : F[i].toNat = 101 := by rw [hFc]; rfl
        cases hO : add7 .e p p.sx st with
        | none =>
          rw [hO] at hstep
          have HRN := hid (show R = none from hstep)
          have HC := hid (fun W (hk : Kept w0 W) (hs : w0.heap.size ≤ W.heap.size) => (show Calls Tryd.prog 27 #[.agg #[.string (A (i + 1)).a, .slice (A (i + 1)).p (A (i + 1)).l (A (i + 1)).c]] W fun e w' => e = .returned (.bool false) ∧ Below W.heap.size W w' from by
            have hc := HIH.out (i + 1) p hpt W hk hs
            rw [show p.sx.isSome = false from by cases h : p.sx with | none => rfl | some k => rw [h, add7] at hO; simp at hO] at hc
            exact hc))
          clear hstep hparts kw hp hcc hFc hpt hO
          go_wp2_with (go_at_call 27; refine (HC.out _ (KA.out _) (by simp; omega)).mono ?_; rintro e w3 ⟨rfl, hb3⟩)
          go_ret
          exact ⟨ret_bool (by rw [HRN.out]; rfl), ((Below.refl _ _).alloc (Nat.le_refl _) _).trans (((hbel.alloc (by omega) _).trans (hb3.mono (by simp; omega))).mono (by omega))⟩
        | some st' =>
          rw [hO] at hstep
          have HRS := hid hstep.symm
          have HC := hid (fun W (hk : Kept w0 W) (hs : w0.heap.size ≤ W.heap.size) => (show Calls Tryd.prog 27 #[.agg #[.string (A (i + 1)).a, .slice (A (i + 1)).p (A (i + 1)).l (A (i + 1)).c]] W fun e w' => e = .returned (.bool true) ∧ Below W.heap.size W w' from by
            have hc := HIH.out (i + 1) p hpt W hk hs
            rw [show p.sx.isSome = true from by obtain ⟨k, hk, _⟩ := add7_e hO; rw [hk]; rfl] at hc
            exact hc))
          clear hstep hparts kw hp hcc hFc hpt hO
          go_wp2_with (go_at_call 27; refine (HC.out _ (KA.out _) (by simp; omega)).mono ?_; rintro e w3 ⟨rfl, hb3⟩)
          go_roundw
          case rel => exact ⟨i + 1, st', by omega, by go_num, HRS, ((hbel.alloc (by omega) _).trans (hb3.mono (by simp; omega)))⟩
          case measure => simp [intOf]; omega
      | x =>
        have hT : F[i].toNat = 120 := by rw [hFc]; rfl
        cases hO : add7 .x p p.sx st with
        | none =>
          rw [hO] at hstep
          have HRN := hid (show R = none from hstep)
          have HC := hid (fun W => (show Calls Tryd.prog 29 #[.string (A (i + 1)).a] W fun e w' => e = .returned (.bool false) ∧ W = w' from by
            have hc := l2Name_any (A (i + 1)).a (by rw [(HPS.out (i + 1) p hpt).text]; exact Nat.le_trans (text_le p) (by omega)) W
            rw [(HPS.out (i + 1) p hpt).text, show nameB p.text.toList = false from by cases h : nameB p.text.toList with | false => rfl | true => rw [add7, if_pos h] at hO; simp at hO] at hc
            rw [(HPS.out (i + 1) p hpt).text]
            exact hc.mono fun e w' h => ⟨h.1, h.2⟩))
          clear hstep hparts kw hp hcc hFc hpt hO
          go_wp2_with (go_at_call 29; refine (HC.out _).mono ?_; rintro e w3 ⟨rfl, rfl⟩)
          go_ret
          exact ⟨ret_bool (by rw [HRN.out]; rfl), ((Below.refl _ _).alloc (Nat.le_refl _) _).trans ((hbel.alloc (by omega) _).mono (by omega))⟩
        | some st' =>
          rw [hO] at hstep
          have HRS := hid hstep.symm
          have HC := hid (fun W => (show Calls Tryd.prog 29 #[.string (A (i + 1)).a] W fun e w' => e = .returned (.bool true) ∧ W = w' from by
            have hc := l2Name_any (A (i + 1)).a (by rw [(HPS.out (i + 1) p hpt).text]; exact Nat.le_trans (text_le p) (by omega)) W
            rw [(HPS.out (i + 1) p hpt).text, show nameB p.text.toList = true from (add7_x hO).1] at hc
            rw [(HPS.out (i + 1) p hpt).text]
            exact hc.mono fun e w' h => ⟨h.1, h.2⟩))
          clear hstep hparts kw hp hcc hFc hpt hO
          go_wp2_with (go_at_call 29; refine (HC.out _).mono ?_; rintro e w3 ⟨rfl, rfl⟩)
          go_roundw
          case rel => exact ⟨i + 1, st', by omega, by go_num, HRS, (hbel.alloc (by omega) _)⟩
          case measure => simp [intOf]; omega
      | s =>
        have hT : F[i].toNat = 115 := by rw [hFc]; rfl
        cases hO : add7 .s p p.sx st with
        | none =>
          rw [hO] at hstep
          have HRN := hid (show R = none from hstep)
          have HC := hid (fun W (hk : Kept w0 W) (hs : w0.heap.size ≤ W.heap.size) => (show Calls Tryd.prog 44 #[.agg #[.string (A (i + 1)).a, .slice (A (i + 1)).p (A (i + 1)).l (A (i + 1)).c]] W fun e w' => e = .returned (.bool false) ∧ Below W.heap.size W w' from by
            have hc := l7Is_any (HPS.out (i + 1) p hpt) (by omega) W hk hs
            rw [show (stLim p).isSome = false from by cases h : stLim p with | none => rfl | some k => rw [add7, h] at hO; simp at hO] at hc
            exact hc))
          clear hstep hparts kw hp hcc hFc hpt hO
          go_wp2_with (go_at_call 44; refine (HC.out _ (KA.out _) (by simp; omega)).mono ?_; rintro e w3 ⟨rfl, hb3⟩)
          go_ret
          exact ⟨ret_bool (by rw [HRN.out]; rfl), ((Below.refl _ _).alloc (Nat.le_refl _) _).trans (((hbel.alloc (by omega) _).trans (hb3.mono (by simp; omega))).mono (by omega))⟩
        | some st' =>
          rw [hO] at hstep
          have HRS := hid hstep.symm
          have HC := hid (fun W (hk : Kept w0 W) (hs : w0.heap.size ≤ W.heap.size) => (show Calls Tryd.prog 44 #[.agg #[.string (A (i + 1)).a, .slice (A (i + 1)).p (A (i + 1)).l (A (i + 1)).c]] W fun e w' => e = .returned (.bool true) ∧ Below W.heap.size W w' from by
            have hc := l7Is_any (HPS.out (i + 1) p hpt) (by omega) W hk hs
            rw [show (stLim p).isSome = true from by obtain ⟨s, h1, h2, _⟩ := add7_s hO; rw [stLim, if_pos h1, h2]; rfl] at hc
            exact hc))
          clear hstep hparts kw hp hcc hFc hpt hO
          go_wp2_with (go_at_call 44; refine (HC.out _ (KA.out _) (by simp; omega)).mono ?_; rintro e w3 ⟨rfl, hb3⟩)
          go_roundw
          case rel => exact ⟨i + 1, st', by omega, by go_num, HRS, ((hbel.alloc (by omega) _).trans (hb3.mono (by simp; omega)))⟩
          case measure => simp [intOf]; omega
    · have hin : i = n := by omega
      have hRe : R = some st := by
        rw [← hparts.out, hin, List.drop_of_length_le (by rw [HFL.out, HN.out]; exact Nat.le_refl _), List.drop_of_length_le (by rw [HN.out]; exact Nat.le_refl _), List.drop_of_length_le (by rw [List.length_map, HN.out]; exact Nat.le_refl _)]
        rfl
      have HRE := hid hRe
      clear hin hRe hparts kw
      go_wp2_with fail
      go_ret
      exact ⟨ret_bool (by rw [HRE.out]; rfl), ((Below.refl _ _).alloc (Nat.le_refl _) _).trans (hbel.mono (by omega))⟩

/-- THE MODEL's SOURCE EXPRESSIONS. -/
theorem l7Expr_any {w0 : World} {S : Nat → Prop} {t : Tree} {h : Hd} (ht : TIn w0 S t h) : t.size ≤ 12000 → t.wt ≤ 12000 → t.write.length ≤ 12000 → ∀ w, Kept w0 w → w0.heap.size ≤ w.heap.size →
    Calls Tryd.prog 27 #[.agg #[.string h.a, .slice h.p h.l h.c]] w fun e w' => e = .returned (.bool t.sx.isSome) ∧ Below w.heap.size w w' := by
  induction ht with
  | atom s hne hm =>
    intro _ _ hwl w _ _
    exact l7Expr_atom s hne (by have : s.size ≤ 12000 := Nat.le_trans (text_le (.atom s)) hwl; omega) w
  | node ps b cap A hp hl hc hS hA hB hps ih =>
    intro hsz hwt hwl w hk hw
    have hh := fun o => l1Head_any (TIn.node ps b cap A hp hl hc hS hA hB hps) (w.alloc o) (hk.alloc hw o)
    obtain ⟨q, qs, rfl⟩ : ∃ q qs, ps = q :: qs := by cases ps with | nil => simp at hp | cons q qs => exact ⟨q, qs, rfl⟩
    have hlen := wts_length (q :: qs)
    rw [Tree.wt] at hwt
    simp only [List.length_cons] at hl hA hB hlen hh
    have hsz2 : ∀ (i : Nat) (p : Tree), (q :: qs)[i]? = some p → p.size ≤ 12000 ∧ p.write.length ≤ 12000 := fun i p h => ⟨by have := size_part _ i p h; rw [Tree.size] at hsz; omega, Nat.le_trans (part_le h) hwl⟩
    cases e0 : q.text.toList == [103, 101, 116] with
    | true => exact l7Expr_get rfl (by omega) w hh e0
    | false =>
      by_cases hno : ∀ f, frm q.text.toList = some f → f.length ≠ qs.length
      · exact l7Expr_no rfl (by omega) w hh e0 hno
      · have ⟨f, hf⟩ := Classical.not_forall.1 hno
        have ⟨hf1, hf2⟩ := Classical.not_imp.1 hf
        exact l7Expr_go rfl hl hc hsz2 hA hB hps (fun i p h => ih i p h (hsz2 i p h).1 (by have := wt_part _ i p h; omega) (hsz2 i p h).2) w hk hw hh e0 hf1 (Classical.not_not.1 hf2)
end Go.Proofs.YtinlibkkbjfmeaaDoor
