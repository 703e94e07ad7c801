/- Merged: SfXI. -/
import Derived.Test.YtgogoekfidbpdaaDoorSQSDisX
import Derived.Test.YtgogoekfidbpdaaDoorSQSSxO
import Derived.Test.YtgogoekfidbpdaaDoorSQ28
import Derived.Test.YtgogoekfidbpdaaDoorSQ24
import Derived.Test.YtgogoekfidbpdaaDoorSQ3
namespace Go.Proofs.YtgogoekfidbpdaaDoor
open Go.RowKit

/-- What SourceFree answers. -/
def sfX (s : ByteArray) : Option (List ByteArray) := (readSx s).map fun m => dedB [] m.fnm
theorem readSx_wt {s : ByteArray} {m : Sx} (h : readSx s = some m) : m.tree.wt ≤ 12000 ∧ m.tree.write.length ≤ 12000 ∧ m.wf := by
  obtain ⟨hp, _, hx⟩ := readSx_inv h
  exact ⟨parse_wt hp, parse_small hp, sx_wf hx⟩
theorem sf_bound (s : ByteArray) : ((sfX s).getD []).length ≤ 12000 := by
  unfold sfX
  cases hr : readSx s with
  | none => simp
  | some m =>
    have h1 := (readSx_wt hr).1
    have h2 := fnm_le m
    have h3 := dedB_le m.fnm []
    simp at h3 ⊢; omega
theorem sfX_none {s : ByteArray} (h : readSx s = none) : sfX s = none := by rw [sfX, h]; rfl
theorem sfX_some {s : ByteArray} {m : Sx} (h : readSx s = some m) : sfX s = some (dedB [] m.fnm) := by rw [sfX, h]; rfl

set_option maxRecDepth 100000 in
set_option maxHeartbeats 2000000 in
theorem implSourceFree_any (s : ByteArray) (hs : s.size ≤ 400000000) (w : World) : Calls Tryd.prog 5 #[.string s] w (ListPost (sfX s) w) := by
  have HC := hid (fun W => readSource_any s hs W)
  cases hr : readSx s with
  | none =>
    have HR := hid hr
    rw [sfX_none hr]
    clear hr
    go_enter Tryd.func5, Tryd.ntmps5
    go_wp2_with (go_at_call 12; refine (HC.out _).mono ?_; rintro e w1 hp; rw [HR.out] at hp; obtain ⟨p1, rfl, hb1⟩ := hp.none; clear hp)
    go_ret2
    exact ⟨⟨none, 0, rfl, World.ownsRow_nil _ _ _ _⟩, hb1⟩
  | some m =>
    have HR := hid hr
    have hwt := (readSx_wt hr).1
    rw [sfX_some hr]
    have hfl := fnm_le m
    obtain ⟨F, hF⟩ : ∃ F, m.fnm = F := ⟨_, rfl⟩
    rw [hF] at hfl ⊢
    obtain ⟨R, hRR⟩ : ∃ R, dedB [] F = R := ⟨_, rfl⟩
    rw [hRR]
    have HFF := hid hF
    have HRR := hid hRR
    clear hr hF hRR
    go_enter Tryd.func5, Tryd.ntmps5
    go_wp2_with (first | (go_at_call 13; have _ := HSV; refine (distinct_any F _ _ _ _ HSV.out (fun g o e => (HL3.out g o e).2) (by omega)).mono ?_; rintro e w4 hp; rw [HRR.out] at hp; obtain ⟨q4, c4, rfl, ho4, hb4⟩ := hp; have HO4 := hid ho4; have HB4 := hid hb4; clear ho4 hb4) | (go_at_call 14; have _ := hb1; refine (HN.out _ (Kept.refl _) (Nat.le_refl _)).mono ?_; rintro e w3 hp; rw [HFF.out] at hp; obtain ⟨q3, c3, rfl, hsv, hlt3, hb3⟩ := hp.full; have HSV := hid hsv; have HL3 := hid hlt3; clear hp hsv hlt3) | (go_at_call 12; refine (HC.out _).mono ?_; rintro e w1 hp; rw [HR.out] at hp; obtain ⟨b, rfl, hb1, hn1⟩ := hp.some; clear hp; have HN := hid (freeNames_any hn1 hwt); clear hn1))
    go_ret2
    have s1 := hb1.size
    have s3 := hb3.size
    exact ListPost.of (l := R) (b := true) rfl rfl ⟨⟨q4, c4, rfl, own_base HO4.out (by omega)⟩, hb1.trans ((hb3.trans (HB4.out.mono s3)).mono s1)⟩

set_option maxRecDepth 100000 in
set_option maxHeartbeats 2000000 in
theorem specSourceFree_any (s : ByteArray) (hs : s.size ≤ 400000000) (w : World) : Calls Tryd.prog 6 #[.string s] w (ListPost (sfX s) w) := by
  have HC := hid (fun W => l7Read_any s hs W)
  have HE := hid (sxTree_eq s)
  cases hr : readSx s with
  | none =>
    have HT := hid (show sxTree s = none by rw [HE.out, hr]; rfl)
    rw [sfX_none hr]
    clear hr
    go_enter Tryd.func6, Tryd.ntmps6
    go_wp2_with (go_at_call 15; refine (HC.out _).mono ?_; rintro e w1 hp; rw [HT.out] at hp; obtain ⟨pa, pp, pl, pc, rfl, hpl, hb1⟩ := hp.none; clear hp; have HO := hid (own_empty (w1.alloc (.cells #[.string pa, .slice pp pl pc] 44)) w.heap.size (by have := hb1.size; simp; omega)))
    go_ret2
    have s1 := hb1.size
    exact ⟨⟨some ⟨w1.heap.size + 1, 0, none⟩, 0, rfl, by simpa using HO.out⟩, (hb1.alloc s1 _).alloc (by simp; omega) _⟩
  | some m =>
    have HT := hid (show sxTree s = some m.tree by rw [HE.out, hr]; rfl)
    obtain ⟨hwt, hwl, hwf⟩ := readSx_wt hr
    rw [sfX_some hr, ← free_nil hwf]
    clear hr
    obtain ⟨R, hRR⟩ : ∃ R, dedB [] (m.free []) = R := ⟨_, rfl⟩
    rw [hRR]
    have HCL := hid (fun (w0 : World) (S : Nat → Prop) (h : Hd) (ht : TIn w0 S m.tree h) => by
      have := l7Free_any m ht hwl [] []
      rw [hRR] at this; exact this)
    clear hRR
    go_enter Tryd.func6, Tryd.ntmps6
    go_wp2_with (first
      | (go_at_call 16; have _ := hb1; rw [← HW.out]; refine (HD.out (some ⟨w1.heap.size + 1, 0, none⟩) (some ⟨w1.heap.size + 2, 0, none⟩) 0 0 0 0 w1.heap.size W2 (Kept.of_below HBW.out (Nat.le_refl _)) HBW.out.size (Nat.le_refl _) HBW.out.size ⟨rfl, fun e => by simp at e, fun i s h => by simp at h⟩ HAP.out HOE.out (by omega) (by omega)).mono ?_; rintro e w4 hp; obtain ⟨q4, c4, rfl, ho4, hg4, _⟩ := hp; have HO4 := hid ho4; have HG4 := hid hg4; clear ho4 hg4)
      | (go_at_call 15; refine (HC.out _).mono ?_; rintro e w1 hp; rw [HT.out] at hp; obtain ⟨pa, pp, pl, pc, rfl, hb1, htr⟩ := hp.some; clear hp; obtain ⟨W2, hW2⟩ : ∃ W2, W2 = ((w1.alloc (.cells #[.string pa, .slice pp pl pc] 44)).alloc (.cells #[] 9)).alloc (.cells #[] 9) := ⟨_, rfl⟩; have hbw : Below w1.heap.size w1 W2 := (by rw [hW2]; exact (((Below.refl _ _).alloc (Nat.le_refl _) _).alloc (by simp) _).alloc (by simp; omega) _); have hsW : W2.heap.size = w1.heap.size + 3 := (by rw [hW2]; simp); have ho := own_empty ((w1.alloc (.cells #[.string pa, .slice pp pl pc] 44)).alloc (.cells #[] 9)) w1.heap.size (by simp; omega); have hosz : ((w1.alloc (.cells #[.string pa, .slice pp pl pc] 44)).alloc (.cells #[] 9)).heap.size = w1.heap.size + 2 := (by simp); rw [← hW2, hosz] at ho; have HOE := hid (show W2.ownsRow w1.heap.size 9 1 (.slice (some ⟨w1.heap.size + 2, 0, none⟩) 0 0) 0 (([] : List ByteArray).map Value.string) from by simpa using ho); have HAP := hid (fun g o (e : (some ⟨w1.heap.size + 1, 0, none⟩ : Option Addr) = some ⟨g, o, none⟩) => (show (Value.slice (some ⟨w1.heap.size + 2, 0, none⟩) 0 0).ownBlock ≠ some g ∧ g < W2.heap.size from by simp at e; obtain ⟨rfl, _⟩ := e; exact ⟨by simp [Value.ownBlock], by omega⟩)); have HW := hid hW2; have HBW := hid hbw; clear hW2 hbw hsW ho hosz; have HD := hid (fun bp lp bn bc ln lc base W => HCL.out _ _ _ htr bp lp bn bc ln lc base W); clear htr))
    go_ret2
    have s1 := hb1.size
    have hbW := hb1.trans (HBW.out.mono s1)
    refine ListPost.of (l := R) (b := true) rfl rfl ⟨⟨q4, c4, rfl, own_base HO4.out s1⟩, hbW.grown HG4.out hbW.size (fun k e => by simp [Value.ownBlock] at e; omega)⟩

end Go.Proofs.YtgogoekfidbpdaaDoor
