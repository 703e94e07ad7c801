/- Merged: ClosedS. -/
import Derived.Test.YtfogjomebcponaaGreatDoorZGSFreeS
namespace Go.Proofs.YtfogjomebcponaaGreatDoor
open Go.RowKit
set_option maxRecDepth 100000
set_option maxHeartbeats 2000000
theorem dedB_nil {F : List ByteArray} : dedB [] F = [] ↔ F = [] := by
 constructor
 ·intro h
  cases F with
  | nil => rfl
  | cons x F =>
   have key : ∀ (F L : List ByteArray), L ≠ [] → dedB L F ≠ [] := by
    intro F
    induction F with
    | nil => intro L hL; simpa [dedB] using hL
    | cons y F ih =>
     intro L hL
     rw [dedB]
     split
     ·exact ih L hL
     ·exact ih _ (by simp)
   rw [dedB, if_neg (by simp [hasB])] at h
   exact absurd h (key F _ (by simp))
 ·intro h; subst h; rfl
theorem l2Closed_any {w0 : World} {S : Nat → Prop} {t : Tree} {h : Hd} (ht : TIn w0 S t h) (hwt : t.wt ≤ 12000) (hok : t.ok) (hwf : t.srt ≠ none) (w : World) (hk : Kept w0 w) (hw : w0.heap.size ≤ w.heap.size) :
    Calls Tryz.prog 33 #[.agg #[.string h.a, .slice h.p h.l h.c]] w fun e w' => e = .returned (.bool (decide ((t.free []).length = 0))) ∧ Below w.heap.size w w' := by
 obtain ⟨W2, hW2⟩ : ∃ W2, W2 = ((w.alloc (.cells #[.string h.a, .slice h.p h.l h.c] 43)).alloc (.cells #[] 9)).alloc (.cells #[] 9) := ⟨_, rfl⟩
 have hbw : Below w.heap.size w W2 := by rw [hW2]; exact (((Below.refl _ _).alloc (Nat.le_refl _) _).alloc (by simp) _).alloc (by simp; omega) _
 have hkW : Kept w0 W2 := hk.below hbw hw
 have hsW : W2.heap.size = w.heap.size + 3 := by rw [hW2]; simp
 have ho := own_empty ((w.alloc (.cells #[.string h.a, .slice h.p h.l h.c] 43)).alloc (.cells #[] 9)) w.heap.size (by simp; omega)
 rw [← hW2] at ho
 have hosz : ((w.alloc (.cells #[.string h.a, .slice h.p h.l h.c] 43)).alloc (.cells #[] 9)).heap.size = w.heap.size + 2 := by simp
 rw [hosz] at ho
 have HC := hid (l2Free_any ht hwt hok hwf [] [] (some ⟨w.heap.size + 1, 0, none⟩) (some ⟨w.heap.size + 2, 0, none⟩) 0 0 0 0 w.heap.size W2 hkW (by omega) hw (by omega) ⟨rfl, fun e => by simp at e, fun i s h => by simp at h⟩
  (fun g o e => by simp at e; obtain ⟨rfl, _⟩ := e; exact ⟨by simp [Value.ownBlock], by omega⟩) (by simpa using ho) (by omega) (by omega))
 have HW := hid hW2
 have HB := hid hbw
 have HD := hid (@dedB_nil (t.free []))
 obtain ⟨R, hR⟩ : ∃ R, dedB [] (t.free []) = R := ⟨_, rfl⟩
 rw [hR] at HC HD
 have hRe : (t.free []).length = 0 ↔ R.length = 0 := by
  rw [List.length_eq_zero_iff, List.length_eq_zero_iff]; exact HD.out.symm
 have HRE := hid (show decide ((t.free []).length = 0) = decide (R.length = 0) by rw [Bool.eq_iff_iff]; simp only [decide_eq_true_eq]; exact hRe)
 clear hW2 hbw hkW hsW ho hosz hR hRe ht hk
 go_enter Tryz.func33, Tryz.ntmps33
 go_wp2_with (go_at_call 67; rw [← HW.out]; refine HC.out.mono ?_; rintro e w1 hp; obtain ⟨q1, c1, rfl, ho1, hg1, _⟩ := hp; have HG := hid hg1; clear ho1 hg1)
 go_ret
 refine ⟨reb ?_, HB.out.grown HG.out HB.out.size (fun k e => by simp [Value.ownBlock] at e; omega)⟩
 rw [HRE.out, Bool.eq_iff_iff]; simp
end Go.Proofs.YtfogjomebcponaaGreatDoor
