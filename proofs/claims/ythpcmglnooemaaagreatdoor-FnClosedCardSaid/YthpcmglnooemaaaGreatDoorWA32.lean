/- Merged: ClosedS, FreeLI. -/
import Derived.Test.YthpcmglnooemaaaGreatDoorWASFreeS
import Derived.Test.YthpcmglnooemaaaGreatDoorWA23
import Derived.Test.YthpcmglnooemaaaGreatDoorWA30
import Derived.Test.YthpcmglnooemaaaGreatDoorWASDisX
import Derived.Test.YthpcmglnooemaaaGreatDoorWA28
import Derived.Test.YthpcmglnooemaaaGreatDoorWASMarkT
namespace Go.Proofs.YthpcmglnooemaaaGreatDoor
open Go.RowKit

theorem dedB_nil {F : List ByteArray} : dedB [] F = [] ↔ F = [] := by
  constructor
  · intro h
    cases F with
    | nil => rfl
    | cons x F =>
      have key : ∀ (F L : List ByteArray), L ≠ [] → dedB L F ≠ [] := by
        intro F
        induction F with
        | nil => intro L hL; simpa [dedB] using hL
        | cons y F ih =>
          intro L hL
          rw [dedB]
          split
          · exact ih L hL
          · exact ih _ (by simp)
      rw [dedB, if_neg (by simp [hasB])] at h
      exact absurd h (key F _ (by simp))
  · intro h; subst h; rfl
set_option maxRecDepth 100000 in
set_option maxHeartbeats 2000000 in
theorem l2Closed_any {w0 : World} {S : Nat → Prop} {t : Tree} {h : Hd} (ht : TIn w0 S t h) (hwt : t.wt ≤ 12000) (hok : t.ok) (hwf : t.srt ≠ none) (w : World) (hk : Kept w0 w) (hw : w0.heap.size ≤ w.heap.size) :
    Calls Tryz.prog 61 #[.agg #[.string h.a, .slice h.p h.l h.c]] w fun e w' => e = .returned (.bool (decide ((t.free []).length = 0))) ∧ Below w.heap.size w w' := by
  obtain ⟨W2, hW2⟩ : ∃ W2, W2 = ((w.alloc (.cells #[.string h.a, .slice h.p h.l h.c] 49)).alloc (.cells #[] 9)).alloc (.cells #[] 9) := ⟨_, rfl⟩
  have hbw : Below w.heap.size w W2 := by rw [hW2]; exact (((Below.refl _ _).alloc (Nat.le_refl _) _).alloc (by simp) _).alloc (by simp; omega) _
  have hkW : Kept w0 W2 := hk.below hbw hw
  have hsW : W2.heap.size = w.heap.size + 3 := by rw [hW2]; simp
  have ho := own_empty ((w.alloc (.cells #[.string h.a, .slice h.p h.l h.c] 49)).alloc (.cells #[] 9)) w.heap.size (by simp; omega)
  rw [← hW2] at ho
  have hosz : ((w.alloc (.cells #[.string h.a, .slice h.p h.l h.c] 49)).alloc (.cells #[] 9)).heap.size = w.heap.size + 2 := by simp
  rw [hosz] at ho
  have HC := hid (l2Free_any ht hwt hok hwf [] [] (some ⟨w.heap.size + 1, 0, none⟩) (some ⟨w.heap.size + 2, 0, none⟩) 0 0 0 0 w.heap.size W2 hkW (by omega) hw (by omega) ⟨rfl, fun e => by simp at e, fun i s h => by simp at h⟩
    (fun g o e => by simp at e; obtain ⟨rfl, _⟩ := e; exact ⟨by simp [Value.ownBlock], by omega⟩) (by simpa using ho) (by omega) (by omega))
  have HW := hid hW2
  have HB := hid hbw
  have HD := hid (@dedB_nil (t.free []))
  obtain ⟨R, hR⟩ : ∃ R, dedB [] (t.free []) = R := ⟨_, rfl⟩
  rw [hR] at HC HD
  have hRe : (t.free []).length = 0 ↔ R.length = 0 := by
    rw [List.length_eq_zero_iff, List.length_eq_zero_iff]; exact HD.out.symm
  have HRE := hid (show decide ((t.free []).length = 0) = decide (R.length = 0) by rw [Bool.eq_iff_iff]; simp only [decide_eq_true_eq]; exact hRe)
  clear hW2 hbw hkW hsW ho hosz hR hRe ht hk
  go_enter Tryz.func61, Tryz.ntmps61
  go_wp2_with (go_at_call 56; rw [← HW.out]; refine HC.out.mono ?_; rintro e w1 hp; obtain ⟨q1, c1, rfl, ho1, hg1, _⟩ := hp; have HG := hid hg1; clear ho1 hg1)
  go_ret
  refine ⟨ret_bool ?_, HB.out.grown HG.out HB.out.size (fun k e => by simp [Value.ownBlock] at e; omega)⟩
  rw [HRE.out, Bool.eq_iff_iff]; simp

end Go.Proofs.YthpcmglnooemaaaGreatDoor

namespace Go.Proofs.YthpcmglnooemaaaGreatDoor
open Go.RowKit

/-- What TermClosed answers. -/
def closedOf (s : ByteArray) : Bool := match readTm s with
  | some m => decide (m.free.length = 0)
  | none => false
theorem closed_none {s : ByteArray} (h : readTm s = none) : closedOf s = false := by rw [closedOf, h]
theorem closed_some {s : ByteArray} {m : Tm} (h : readTm s = some m) : closedOf s = decide (m.free.length = 0) := by rw [closedOf, h]
/-- What TermFree answers. -/
def freeOf (s : ByteArray) : Option (List ByteArray) := (readTm s).map fun m => dedB [] m.free

set_option maxRecDepth 100000 in
set_option maxHeartbeats 1000000 in
theorem implTermClosed_any (s : ByteArray) (hs : s.size ≤ 400000000) (w : World) : Calls Tryz.prog 29 #[.string s] w fun e w' => e = .returned (.bool (closedOf s)) ∧ Below w.heap.size w w' := by
  have HC := hid (fun W => readTerm_any s hs W)
  cases hr : readTm s with
  | none =>
    have HR := hid hr
    have HS := hid (closed_none hr)
    clear hr
    go_enter Tryz.func29, Tryz.ntmps29
    go_wp2_with (go_at_call 42; refine (HC.out _).mono ?_; rintro e w1 hp; rw [HR.out] at hp; obtain ⟨rfl, hb1⟩ := hp.none; clear hp)
    go_ret
    exact ⟨ret_bool HS.out.symm, hb1⟩
  | some m =>
    have HR := hid hr
    obtain ⟨t, _, _, _, hms⟩ := readTm_inv hr
    have HS := hid (closed_some hr)
    have hfl := free_length m
    obtain ⟨F, hF⟩ : ∃ F, m.free = F := ⟨_, rfl⟩
    rw [hF] at HS hfl
    have HFF := hid hF
    clear hr hF
    go_enter Tryz.func29, Tryz.ntmps29
    go_wp2_with (first | (go_at_call 51; have _ := hb1; refine (HN.out _ (Kept.refl _) (Nat.le_refl _)).mono ?_; rintro e w3 hp; rw [HFF.out] at hp; obtain ⟨q3, c3, rfl, hsv, hb3⟩ := hp.sv; clear hp hsv) | (go_at_call 42; refine (HC.out _).mono ?_; rintro e w1 hp; rw [HR.out] at hp; obtain ⟨b, rfl, hb1, hn1⟩ := hp.some; clear hp; have HN := hid (freeNames_any hn1 (by omega)); clear hn1))
    all_goals
      go_ret
      refine ⟨ret_bool ?_, hb1.trans (hb3.mono hb1.size)⟩
      rw [HS.out]
      first
      | (rw [Bool.eq_iff_iff]; simp; done)
      | (symm; simp; omega)

set_option maxRecDepth 100000 in
set_option maxHeartbeats 1000000 in
theorem specTermClosed_any (s : ByteArray) (hs : s.size ≤ 400000000) (w : World) : Calls Tryz.prog 31 #[.string s] w fun e w' => e = .returned (.bool (closedOf s)) ∧ Below w.heap.size w w' := by
  have HC := hid (fun W => l2Term_any s hs W)
  cases ht : termTree s with
  | none =>
    have HR := hid (closed_none (termTree_none ht))
    have HT := hid ht
    clear ht
    go_enter Tryz.func31, Tryz.ntmps31
    go_wp2_with (go_at_call 44; refine (HC.out _).mono ?_; rintro e w1 hp; rw [HT.out] at hp; obtain ⟨pa, pp, pl, pc, rfl, hpl, hb1⟩ := hp.none; clear hp)
    go_ret
    exact ⟨ret_bool HR.out.symm, hb1.alloc hb1.size _⟩
  | some t =>
    obtain ⟨hpt, hso, hsz, m, hm, htm⟩ := termTree_some ht
    have HR := hid ((closed_some hm).trans (by rw [tm_free t [] m htm]))
    have hwt := parse_wt hpt
    have hok := hid (parse_ok hpt)
    have HSO := hid hso
    have HT := hid ht
    clear ht hpt hso hm htm
    obtain ⟨R, hRR⟩ : ∃ R, decide ((t.free []).length = 0) = R := ⟨_, rfl⟩
    have HCL := hid (fun (w0 : World) (S : Nat → Prop) (h : Hd) (ht : TIn w0 S t h) (W : World) (hk : Kept w0 W) (hs : w0.heap.size ≤ W.heap.size) => by
      have := l2Closed_any ht hwt hok.out HSO.out W hk hs
      rw [hRR] at this; exact this)
    rw [hRR] at HR
    clear hRR
    go_enter Tryz.func31, Tryz.ntmps31
    go_wp2_with (first | (go_at_call 61; have _ := hb1; refine (HD.out _ ((Kept.refl _).alloc (Nat.le_refl _) _) (by simp)).mono ?_; rintro e w2 ⟨rfl, hb2⟩) | (go_at_call 44; refine (HC.out _).mono ?_; rintro e w1 hp; rw [HT.out] at hp; obtain ⟨pa, pp, pl, pc, rfl, hb1, htr⟩ := hp.some; clear hp; have HD := hid (fun W hk hs => HCL.out _ _ _ htr W hk hs); clear htr))
    go_ret
    have s1 := hb1.size
    exact ⟨ret_bool HR.out.symm, hb1.trans (((Below.refl _ _).alloc s1 _).trans (hb2.mono (by simp; omega)))⟩

theorem free_bound (s : ByteArray) : ((freeOf s).getD []).length ≤ 1500 := by
  unfold freeOf
  cases hr : readTm s with
  | none => simp
  | some m =>
    obtain ⟨t, _, _, _, hms⟩ := readTm_inv hr
    have h1 := free_length m
    have h2 := dedB_le m.free []
    simp at h2 ⊢; omega
theorem freeOf_none {s : ByteArray} (h : readTm s = none) : freeOf s = none := by rw [freeOf, h]; rfl
theorem freeOf_some {s : ByteArray} {m : Tm} (h : readTm s = some m) : freeOf s = some (dedB [] m.free) := by rw [freeOf, h]; rfl

set_option maxRecDepth 100000 in
set_option maxHeartbeats 2000000 in
theorem implTermFree_any (s : ByteArray) (hs : s.size ≤ 400000000) (w : World) : Calls Tryz.prog 19 #[.string s] w (ListPost (freeOf s) w) := by
  have HC := hid (fun W => readTerm_any s hs W)
  cases hr : readTm s with
  | none =>
    have HR := hid hr
    rw [freeOf_none hr]
    clear hr
    go_enter Tryz.func19, Tryz.ntmps19
    go_wp2_with (go_at_call 42; refine (HC.out _).mono ?_; rintro e w1 hp; rw [HR.out] at hp; obtain ⟨rfl, hb1⟩ := hp.none; clear hp)
    go_ret2
    exact ⟨⟨none, 0, rfl, World.ownsRow_nil _ _ _ _⟩, hb1⟩
  | some m =>
    have HR := hid hr
    obtain ⟨t, _, _, _, hms⟩ := readTm_inv hr
    rw [freeOf_some hr]
    have hfl := free_length m
    obtain ⟨F, hF⟩ : ∃ F, m.free = F := ⟨_, rfl⟩
    rw [hF] at hfl ⊢
    obtain ⟨R, hRR⟩ : ∃ R, dedB [] F = R := ⟨_, rfl⟩
    rw [hRR]
    have hfl2 : F.length ≤ 1500 := by omega
    have HFF := hid hF
    have HRR := hid hRR
    clear hr hF hfl hRR
    go_enter Tryz.func19, Tryz.ntmps19
    go_wp2_with (first | (go_at_call 50; have _ := HSV; refine (distinct_any F _ _ _ _ HSV.out (fun g o e => (HL3.out g o e).2) (by omega)).mono ?_; rintro e w4 hp; rw [HRR.out] at hp; obtain ⟨q4, c4, rfl, ho4, hb4⟩ := hp; have HO4 := hid ho4; have HB4 := hid hb4; clear ho4 hb4) | (go_at_call 51; have _ := hb1; refine (HN.out _ (Kept.refl _) (Nat.le_refl _)).mono ?_; rintro e w3 hp; rw [HFF.out] at hp; obtain ⟨q3, c3, rfl, hsv, hlt3, hb3⟩ := hp.full; have HSV := hid hsv; have HL3 := hid hlt3; clear hp hsv hlt3) | (go_at_call 42; refine (HC.out _).mono ?_; rintro e w1 hp; rw [HR.out] at hp; obtain ⟨b, rfl, hb1, hn1⟩ := hp.some; clear hp; have HN := hid (freeNames_any hn1 (by omega)); clear hn1))
    go_ret2
    have s1 := hb1.size
    have s3 := hb3.size
    exact ListPost.of (l := R) (b := true) rfl rfl ⟨⟨q4, c4, rfl, own_base HO4.out (by omega)⟩, hb1.trans ((hb3.trans (HB4.out.mono s3)).mono s1)⟩

set_option maxRecDepth 100000 in
set_option maxHeartbeats 2000000 in
theorem specTermFree_any (s : ByteArray) (hs : s.size ≤ 400000000) (w : World) : Calls Tryz.prog 26 #[.string s] w (ListPost (freeOf s) w) := by
  have HC := hid (fun W => l2Term_any s hs W)
  cases ht : termTree s with
  | none =>
    rw [freeOf_none (termTree_none ht)]
    have HT := hid ht
    clear ht
    go_enter Tryz.func26, Tryz.ntmps26
    go_wp2_with (go_at_call 44; refine (HC.out _).mono ?_; rintro e w1 hp; rw [HT.out] at hp; obtain ⟨pa, pp, pl, pc, rfl, hpl, hb1⟩ := hp.none; clear hp; have HO := hid (own_empty (w1.alloc (.cells #[.string pa, .slice pp pl pc] 49)) w.heap.size (by have := hb1.size; simp; omega)))
    go_ret2
    have s1 := hb1.size
    exact ⟨⟨some ⟨w1.heap.size + 1, 0, none⟩, 0, rfl, by simpa using HO.out⟩, (hb1.alloc s1 _).alloc (by simp; omega) _⟩
  | some t =>
    obtain ⟨hpt, hso, hsz, m, hm, htm⟩ := termTree_some ht
    rw [freeOf_some hm, tm_free t [] m htm]
    have hwt := parse_wt hpt
    have hok := hid (parse_ok hpt)
    have HSO := hid hso
    have HT := hid ht
    clear ht hpt hso hm htm
    obtain ⟨R, hRR⟩ : ∃ R, dedB [] (t.free []) = R := ⟨_, rfl⟩
    rw [hRR]
    have HCL := hid (fun (w0 : World) (S : Nat → Prop) (h : Hd) (ht : TIn w0 S t h) => by
      have := l2Free_any ht hwt hok.out HSO.out [] []
      rw [hRR] at this; exact this)
    clear hRR
    go_enter Tryz.func26, Tryz.ntmps26
    go_wp2_with (first
      | (go_at_call 56; have _ := hb1; rw [← HW.out]; refine (HD.out (some ⟨w1.heap.size + 1, 0, none⟩) (some ⟨w1.heap.size + 2, 0, none⟩) 0 0 0 0 w1.heap.size W2 (Kept.of_below HBW.out (Nat.le_refl _)) HBW.out.size (Nat.le_refl _) HBW.out.size ⟨rfl, fun e => by simp at e, fun i s h => by simp at h⟩ HAP.out HOE.out (by omega) (by omega)).mono ?_; rintro e w4 hp; obtain ⟨q4, c4, rfl, ho4, hg4, _⟩ := hp; have HO4 := hid ho4; have HG4 := hid hg4; clear ho4 hg4)
      | (go_at_call 44; refine (HC.out _).mono ?_; rintro e w1 hp; rw [HT.out] at hp; obtain ⟨pa, pp, pl, pc, rfl, hb1, htr⟩ := hp.some; clear hp; obtain ⟨W2, hW2⟩ : ∃ W2, W2 = ((w1.alloc (.cells #[.string pa, .slice pp pl pc] 49)).alloc (.cells #[] 9)).alloc (.cells #[] 9) := ⟨_, rfl⟩; have hbw : Below w1.heap.size w1 W2 := (by rw [hW2]; exact (((Below.refl _ _).alloc (Nat.le_refl _) _).alloc (by simp) _).alloc (by simp; omega) _); have hsW : W2.heap.size = w1.heap.size + 3 := (by rw [hW2]; simp); have ho := own_empty ((w1.alloc (.cells #[.string pa, .slice pp pl pc] 49)).alloc (.cells #[] 9)) w1.heap.size (by simp; omega); have hosz : ((w1.alloc (.cells #[.string pa, .slice pp pl pc] 49)).alloc (.cells #[] 9)).heap.size = w1.heap.size + 2 := (by simp); rw [← hW2, hosz] at ho; have HOE := hid (show W2.ownsRow w1.heap.size 9 1 (.slice (some ⟨w1.heap.size + 2, 0, none⟩) 0 0) 0 (([] : List ByteArray).map Value.string) from by simpa using ho); have HAP := hid (fun g o (e : (some ⟨w1.heap.size + 1, 0, none⟩ : Option Addr) = some ⟨g, o, none⟩) => (show (Value.slice (some ⟨w1.heap.size + 2, 0, none⟩) 0 0).ownBlock ≠ some g ∧ g < W2.heap.size from by simp at e; obtain ⟨rfl, _⟩ := e; exact ⟨by simp [Value.ownBlock], by omega⟩)); have HW := hid hW2; have HBW := hid hbw; clear hW2 hbw hsW ho hosz; have HD := hid (fun bp lp bn bc ln lc base W => HCL.out _ _ _ htr bp lp bn bc ln lc base W); clear htr))
    go_ret2
    have s1 := hb1.size
    have hbW := hb1.trans (HBW.out.mono s1)
    refine ListPost.of (l := R) (b := true) rfl rfl ⟨⟨q4, c4, rfl, own_base HO4.out s1⟩, hbW.grown HG4.out hbW.size (fun k e => by simp [Value.ownBlock] at e; omega)⟩

end Go.Proofs.YthpcmglnooemaaaGreatDoor
