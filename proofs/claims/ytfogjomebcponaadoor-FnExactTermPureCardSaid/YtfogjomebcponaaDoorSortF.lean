/- The model's sort of a part. -/
import Derived.Test.YtfogjomebcponaaDoorShape
import Derived.Test.YtfogjomebcponaaDoorShapeF
import Derived.Test.YtfogjomebcponaaDoorTermR
import Derived.Test.YtfogjomebcponaaDoorNamesS
import Derived.Test.YtfogjomebcponaaDoorSpecC
namespace Go.Proofs.YtfogjomebcponaaDoor
open Go.RowKit

theorem strV_l : strV.toList = [118, 97, 108, 117, 101] := by rw [Go.ByteArray.toList_eq]; rfl
theorem strC_l : strC.toList = [99, 111, 109, 112, 117, 116, 97, 116, 105, 111, 110] := by rw [Go.ByteArray.toList_eq]; rfl
theorem srtS_v (x : Option Bool) : ((srtS x).toList == [118, 97, 108, 117, 101]) = decide (x = some true) := by
  rcases x with _ | _ | _ <;> simp [srtS, strV_l, strC_l]
theorem srtS_c (x : Option Bool) : ((srtS x).toList == [99, 111, 109, 112, 117, 116, 97, 116, 105, 111, 110]) = decide (x = some false) := by
  rcases x with _ | _ | _ <;> simp [srtS, strV_l, strC_l]
theorem srtS_e (x : Option Bool) : (srtS x).toList.isEmpty = decide (x = none) := by
  rcases x with _ | _ | _ <;> simp [srtS, strV_l, strC_l]
theorem fitA (p : Tree) : (tyLim p).any Ty.isVal = ((p.kind.toList == [118, 97, 108, 117, 101]) && decide ((p.size : Int) ≤ 12)) := by
  rw [kind_ty, tyLim]
  by_cases h : p.size ≤ 12
  · rw [if_pos h, decide_eq_true (show (p.size : Int) ≤ 12 by omega)]
    cases p.ty with
    | none => simp [kindOf]
    | some ty => cases hv : ty.isVal <;> simp [kindOf, Ty.kindS, hv, strV_l, strC_l]
  · rw [if_neg h, decide_eq_false (show ¬ (p.size : Int) ≤ 12 by omega)]; simp
theorem fitC (p : Tree) : (tyLim p).any (!Ty.isVal ·) = ((p.kind.toList == [99, 111, 109, 112, 117, 116, 97, 116, 105, 111, 110]) && decide ((p.size : Int) ≤ 12)) := by
  rw [kind_ty, tyLim]
  by_cases h : p.size ≤ 12
  · rw [if_pos h, decide_eq_true (show (p.size : Int) ≤ 12 by omega)]
    cases p.ty with
    | none => simp [kindOf]
    | some ty => cases hv : ty.isVal <;> simp [kindOf, Ty.kindS, hv, strV_l, strC_l]
  · rw [if_neg h, decide_eq_false (show ¬ (p.size : Int) ≤ 12 by omega)]; simp
/-- Whether a part is of a kind. -/
def fit1 (c : Sg) (p : Tree) : Bool := match c with
  | .X => nameB p.text.toList
  | .A => (tyLim p).any Ty.isVal
  | .C => (tyLim p).any (!Ty.isVal ·)
  | .V => decide (Tree.srt p = some true)
  | .M => decide (Tree.srt p = some false)
theorem fits_cons (c : Sg) (cs : List Sg) (p : Tree) (ps : List Tree) : Tree.fits (c :: cs) (p :: ps) = (fit1 c p && Tree.fits cs ps) := by
  cases c <;> rw [Tree.fits] <;> rfl
/-- What the model's sort answers for a part. -/
def SrtAsk (w0 : World) (p : Tree) (h : Hd) : Prop := ∀ (W : World), Kept w0 W → w0.heap.size ≤ W.heap.size →
  Calls Tryd.prog 27 #[.agg #[.string h.a, .slice h.p h.l h.c]] W fun e w' => e = .returned (.string (srtS p.srt)) ∧ Below W.heap.size W w'
theorem ret_bool' {a b : Bool} (h : a = b) : Ending.returned (.bool a) = Ending.returned (.bool b) := by rw [h]
theorem text_small {w : World} {S : Nat → Prop} {p : Tree} {h : Hd} (ht : TIn w S p h) (hok : p.ok) : p.text.size ≤ 400000000 := by
  cases ht with
  | atom s hne hm => have := hok.1; show s.size ≤ _; omega
  | node ps b cap A hp hl hc hS hA hB hps => show ByteArray.empty.size ≤ _; decide

set_option maxRecDepth 100000 in
set_option maxHeartbeats 2000000 in
theorem l2Fits_any {w0 : World} {S : Nat → Prop} {p : Tree} {h : Hd} (ht : TIn w0 S p h) (hwt : p.wt ≤ 12000) (hok : p.ok) (ih : SrtAsk w0 p h) (w : World) (hk : Kept w0 w) (hw : w0.heap.size ≤ w.heap.size) (c : Sg) :
    Calls Tryd.prog 44 #[.agg #[.string h.a, .slice h.p h.l h.c], .int .u8 (c.lo.toNat : Int)] w fun e w' => e = .returned (.bool (fit1 c p)) ∧ Below w.heap.size w w' := by
  have k1 : ∀ o, Kept w0 (w.alloc o) := fun o => hk.alloc hw o
  cases c with
  | V =>
    have HC := hid (fun o => ih (w.alloc o) (k1 o) (by simp; omega))
    clear ih hk k1 ht
    have HQ := hid (srtS_v p.srt)
    show Calls Tryd.prog 44 #[_, .int .u8 (118 : Int)] w _
    go_enter Tryd.func44, Tryd.ntmps44
    go_wp2_with (go_at_call 27; refine (HC.out _).mono ?_; rintro e w1 ⟨rfl, hb1⟩)
    go_ret
    exact ⟨ret_bool' HQ.out, ((Below.refl _ _).alloc (Nat.le_refl _) _).trans (hb1.mono (by simp))⟩
  | M =>
    have HC := hid (fun o => ih (w.alloc o) (k1 o) (by simp; omega))
    clear ih hk k1 ht
    have HQ := hid (srtS_c p.srt)
    show Calls Tryd.prog 44 #[_, .int .u8 (109 : Int)] w _
    go_enter Tryd.func44, Tryd.ntmps44
    go_wp2_with (go_at_call 27; refine (HC.out _).mono ?_; rintro e w1 ⟨rfl, hb1⟩)
    go_ret
    exact ⟨ret_bool' HQ.out, ((Below.refl _ _).alloc (Nat.le_refl _) _).trans (hb1.mono (by simp))⟩
  | X =>
    have hsm := text_small ht hok
    rw [ht.text]
    have HC := hid (fun W => l2Name_any p.text hsm W)
    clear ih hk k1 ht
    show Calls Tryd.prog 44 #[_, .int .u8 (120 : Int)] w _
    go_enter Tryd.func44, Tryd.ntmps44
    go_wp2_with (go_at_call 42; refine (HC.out _).mono ?_; rintro e w1 ⟨rfl, rfl⟩)
    go_ret
    exact ⟨rfl, (Below.refl _ _).alloc (Nat.le_refl _) _⟩
  | A =>
    have hsz := size_le_wt p
    have hsz2 : p.size ≤ 12000 := by omega
    have HC := hid (fun o => l1Kind_any ht hwt (w.alloc o) (k1 o) (by simp; omega))
    have HD := hid (fun W hk hs => l1Size_any ht hsz2 W hk hs)
    have HK := hid k1
    have HF := hid (fitA p)
    clear ih hk k1 ht
    show Calls Tryd.prog 44 #[_, .int .u8 (97 : Int)] w _
    cases e0 : p.kind.toList == [118, 97, 108, 117, 101] with
    | true =>
      have HE := hid e0
      go_enter Tryd.func44, Tryd.ntmps44
      go_wp2_with (first | (go_at_call 20; have _ := hb1; refine (HD.out _ ((HK.out _).below hb1 (by simp; omega)) (by have := hb1.size; simp at this; omega)).mono ?_; rintro e w2 ⟨rfl, hb2⟩) | (go_at_call 19; refine (HC.out _).mono ?_; rintro e w1 ⟨rfl, hb1⟩; have kc := cells_of_pair (block_below (heap_new w (.cells #[.string h.a, .slice h.p h.l h.c] 27) _ rfl) hb1 (by simp))))
      go_ret
      have s1 := hb1.size
      simp at s1
      exact ⟨ret_bool' (by show _ = (tyLim p).any Ty.isVal; rw [HF.out, HE.out, Bool.true_and]), ((Below.refl _ _).alloc (Nat.le_refl _) _).trans ((hb1.mono (by simp)).trans (hb2.mono (by omega)))⟩
    | false =>
      have HE := hid e0
      go_enter Tryd.func44, Tryd.ntmps44
      go_wp2_with (go_at_call 19; refine (HC.out _).mono ?_; rintro e w1 ⟨rfl, hb1⟩; have kc := cells_of_pair (block_below (heap_new w (.cells #[.string h.a, .slice h.p h.l h.c] 27) _ rfl) hb1 (by simp)))
      go_ret
      exact ⟨ret_bool' (by show _ = (tyLim p).any Ty.isVal; rw [HF.out, HE.out, Bool.false_and]), ((Below.refl _ _).alloc (Nat.le_refl _) _).trans (hb1.mono (by simp))⟩
  | C =>
    have hsz := size_le_wt p
    have hsz2 : p.size ≤ 12000 := by omega
    have HC := hid (fun o => l1Kind_any ht hwt (w.alloc o) (k1 o) (by simp; omega))
    have HD := hid (fun W hk hs => l1Size_any ht hsz2 W hk hs)
    have HK := hid k1
    have HF := hid (fitC p)
    clear ih hk k1 ht
    show Calls Tryd.prog 44 #[_, .int .u8 (99 : Int)] w _
    cases e0 : p.kind.toList == [99, 111, 109, 112, 117, 116, 97, 116, 105, 111, 110] with
    | true =>
      have HE := hid e0
      go_enter Tryd.func44, Tryd.ntmps44
      go_wp2_with (first | (go_at_call 20; have _ := hb1; refine (HD.out _ ((HK.out _).below hb1 (by simp; omega)) (by have := hb1.size; simp at this; omega)).mono ?_; rintro e w2 ⟨rfl, hb2⟩) | (go_at_call 19; refine (HC.out _).mono ?_; rintro e w1 ⟨rfl, hb1⟩; have kc := cells_of_pair (block_below (heap_new w (.cells #[.string h.a, .slice h.p h.l h.c] 27) _ rfl) hb1 (by simp))))
      go_ret
      have s1 := hb1.size
      simp at s1
      exact ⟨ret_bool' (by show _ = (tyLim p).any (!Ty.isVal ·); rw [HF.out, HE.out, Bool.true_and]), ((Below.refl _ _).alloc (Nat.le_refl _) _).trans ((hb1.mono (by simp)).trans (hb2.mono (by omega)))⟩
    | false =>
      have HE := hid e0
      go_enter Tryd.func44, Tryd.ntmps44
      go_wp2_with (go_at_call 19; refine (HC.out _).mono ?_; rintro e w1 ⟨rfl, hb1⟩; have kc := cells_of_pair (block_below (heap_new w (.cells #[.string h.a, .slice h.p h.l h.c] 27) _ rfl) hb1 (by simp)))
      go_ret
      exact ⟨ret_bool' (by show _ = (tyLim p).any (!Ty.isVal ·); rw [HF.out, HE.out, Bool.false_and]), ((Below.refl _ _).alloc (Nat.le_refl _) _).trans (hb1.mono (by simp))⟩
end Go.Proofs.YtfogjomebcponaaDoor
