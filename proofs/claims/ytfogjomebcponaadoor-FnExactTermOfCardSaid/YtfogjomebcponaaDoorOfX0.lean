/- TermOf: the program's walk. -/
import Derived.Test.YtfogjomebcponaaDoorOfX1
import Derived.Test.YtfogjomebcponaaDoorOfL
namespace Go.Proofs.YtfogjomebcponaaDoor
open Go.RowKit

set_option maxRecDepth 100000 in
set_option maxHeartbeats 1000000 in
theorem implTermOf_any (s : ByteArray) (hs : s.size ≤ 400000000) (w : World) : Calls Tryd.prog 6 #[.string s] w (OfPost (readTy s) w) := by
  have HC := hid (fun W => readType_any s hs W)
  cases hr : readTy s with
  | none =>
    have HR := hid hr
    clear hr
    go_enter Tryd.func6, Tryd.ntmps6
    go_wp2_with (go_at_call 11; refine (HC.out _).mono ?_; rintro e w1 hp; rw [HR.out] at hp; obtain ⟨rfl, hb1⟩ := hp.none; clear hp)
    go_ret2
    exact ⟨rfl, hb1⟩
  | some ty =>
    have hat := readTy_atoms hr
    have hsl := simp_len ty
    have HR := hid hr
    have HM := hid (fun W => simple_any ty W)
    have HT := hid (fun (w0 : World) (S : Nat → Prop) (b : Nat) (hn : NIn w0 S ty.simp b) (W : World) (hk : Kept w0 W) (hw : w0.heap.size ≤ W.heap.size) => text_any hn (simp_fit ty) (by omega) W hk hw)
    obtain ⟨n, v, hv⟩ := ty.val_iface
    have HV := hid hv
    rw [hv] at HM
    clear hr hv
    go_enter Tryd.func6, Tryd.ntmps6
    go_wp2_with (first | (go_at_call 13; have _ := HN; refine (HT.out _ _ _ HN.out _ (Kept.refl _) (Nat.le_refl _)).mono ?_; rintro e w3 ⟨rfl, hb3⟩) | (go_at_call 12; have _ := hb1; refine (HM.out _).mono ?_; rintro e w2 ⟨b, rfl, hn2, hb2⟩; have HN := hid hn2; clear hn2) | (go_at_call 11; refine (HC.out _).mono ?_; rintro e w1 hp; rw [HR.out] at hp; obtain ⟨he1, hb1⟩ := hp.some; rw [HV.out] at he1; subst he1; clear hp))
    go_ret2
    exact ⟨rfl, (hb1.trans (hb2.mono hb1.size)).trans (hb3.mono (by have := hb1.size; have := hb2.size; omega))⟩

end Go.Proofs.YtfogjomebcponaaDoor
