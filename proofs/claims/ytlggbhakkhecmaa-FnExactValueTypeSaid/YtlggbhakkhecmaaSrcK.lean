/- The program reads a source type with few atoms, and a whole text. -/
import Derived.Test.YtlggbhakkhecmaaSrcJ
namespace Go.Proofs.Ytlggbhakkhecmaa
open Go.RowKit

set_option maxRecDepth 100000 in
set_option maxHeartbeats 2000000 in
theorem limitedSourceType_any {w0 : World} {S : Nat → Prop} {t : Tree} {h : Hd} (ht : TIn w0 S t h) (hwt : t.wt ≤ 12000) (w : World) (hk : Kept w0 w) (hw : w0.heap.size ≤ w.heap.size) :
    Calls Try.prog 31 #[.agg #[.string h.a, .slice h.p h.l h.c]] w (SPost (stLim t) w) := by
  have hsz := size_le_wt t
  have HD := hid (fun W hk hs => atoms_any ht (by omega) W hk hs)
  have HE := hid (fun W hk hs => sourceTypeOf_any ht W hk hs)
  have HK := hid hk
  clear ht hk
  obtain ⟨pa, pp, pl, pc⟩ := h
  by_cases h12 : t.size ≤ 12
  · have HR := hid (show stLim t = t.sty by rw [stLim, if_pos h12])
    cases hty : t.sty with
    | none =>
      have HT := hid hty
      clear hty
      go_enter Try.func31, Try.ntmps31
      go_wp2_with (first | (go_at_call 41; refine (HD.out _ (HK.out.alloc hw _) (by simp; omega)).mono ?_; rintro e w2 ⟨rfl, hb2⟩; have k2 := cells_of_pair (block_below (heap_new w (.cells #[.string pa, .slice pp pl pc] 55) _ rfl) hb2 (by simp))) | (go_at_call 42; refine (HE.out _ ((HK.out.alloc hw _).below hb2 (by simp; omega)) (by have := hb2.size; simp at this; omega)).mono ?_; rintro e w3 hp; rw [HT.out] at hp; obtain ⟨rfl, hb3⟩ := hp.none; clear hp))
      go_ret2
      rw [HR.out, HT.out]
      have s2 := hb2.size
      simp at s2
      have hbw : Below w.heap.size w w3 := ((Below.refl _ _).alloc (Nat.le_refl _) _).trans ((hb2.mono (by simp)).trans (hb3.mono (by omega)))
      exact sPost_none hbw
    | some tp =>
      have HT := hid hty
      clear hty
      go_enter Try.func31, Try.ntmps31
      go_wp2_with (first | (go_at_call 41; refine (HD.out _ (HK.out.alloc hw _) (by simp; omega)).mono ?_; rintro e w2 ⟨rfl, hb2⟩; have k2 := cells_of_pair (block_below (heap_new w (.cells #[.string pa, .slice pp pl pc] 55) _ rfl) hb2 (by simp))) | (go_at_call 42; refine (HE.out _ ((HK.out.alloc hw _).below hb2 (by simp; omega)) (by have := hb2.size; simp at this; omega)).mono ?_; rintro e w3 hp; rw [HT.out] at hp; obtain ⟨a1, rfl, hb3, hn1⟩ := hp.some; clear hp))
      go_ret2
      rw [HR.out, HT.out]
      have s2 := hb2.size
      simp at s2
      have hbw : Below w.heap.size w w3 := ((Below.refl _ _).alloc (Nat.le_refl _) _).trans ((hb2.mono (by simp)).trans (hb3.mono (by omega)))
      exact sPost_some hbw (hn1.wide (fun k hk => by omega))
  · have HR := hid (show stLim t = none by rw [stLim, if_neg h12])
    have h13 : 12 < t.size := by omega
    clear h12
    go_enter Try.func31, Try.ntmps31
    go_wp2_with (go_at_call 41; refine (HD.out _ (HK.out.alloc hw _) (by simp; omega)).mono ?_; rintro e w2 ⟨rfl, hb2⟩)
    go_ret2
    rw [HR.out]
    exact sPost_none (((Below.refl _ _).alloc (by omega) _).trans (hb2.mono (by simp)))
end Go.Proofs.Ytlggbhakkhecmaa
