/- The program reads a whole text as a source type. -/
import Derived.Test.YtlggbhakkhecmaaSrcK
namespace Go.Proofs.Ytlggbhakkhecmaa
open Go.RowKit

set_option maxRecDepth 100000 in
set_option maxHeartbeats 2000000 in
theorem readSourceType_any (s : ByteArray) (hs : s.size ≤ 400000000) (w : World) : Calls Try.prog 17 #[.string s] w (SPost (readSty s) w) := by
  have HC := hid (fun W => readPhrase_any s hs W)
  cases hp : parse s with
  | none =>
    have HP := hid hp
    have HR := hid (show readSty s = none by rw [readSty, hp])
    clear hp
    go_enter Try.func17, Try.ntmps17
    go_wp2_with (go_at_call 30; refine (HC.out _).mono ?_; rintro e w1 hp; rw [HP.out] at hp; obtain ⟨pa, pp, pl, pc, rfl, hpl, hb1⟩ := hp.none; clear hp)
    go_ret2
    rw [HR.out]
    exact sPost_none (hb1.alloc hb1.size _)
  | some t =>
    have hwt := parse_wt hp
    have HP := hid hp
    have HR := hid (show readSty s = stLim t by rw [readSty, hp]; rfl)
    clear hp
    cases hty : stLim t with
    | none =>
      have HT := hid hty
      clear hty
      go_enter Try.func17, Try.ntmps17
      go_wp2_with (first | (go_at_call 30; refine (HC.out _).mono ?_; rintro e w1 hp; rw [HP.out] at hp; obtain ⟨pa, pp, pl, pc, rfl, hb1, ht⟩ := hp.some; clear hp; have HD := hid (fun W hk hs => limitedSourceType_any ht hwt W hk hs); clear ht) | (go_at_call 31; refine (HD.out _ ((Kept.refl _).alloc (Nat.le_refl _) _) (by simp)).mono ?_; rintro e w3 hp; rw [HT.out] at hp; obtain ⟨rfl, hb3⟩ := hp.none; clear hp))
      go_ret2
      rw [HR.out, HT.out]
      have s1 := hb1.size
      have hbw : Below w.heap.size w w3 := hb1.trans (((Below.refl _ _).alloc (by omega) _).trans (hb3.mono (by simp; omega)))
      exact sPost_none hbw
    | some tp =>
      have HT := hid hty
      clear hty
      go_enter Try.func17, Try.ntmps17
      go_wp2_with (first | (go_at_call 30; refine (HC.out _).mono ?_; rintro e w1 hp; rw [HP.out] at hp; obtain ⟨pa, pp, pl, pc, rfl, hb1, ht⟩ := hp.some; clear hp; have HD := hid (fun W hk hs => limitedSourceType_any ht hwt W hk hs); clear ht) | (go_at_call 31; refine (HD.out _ ((Kept.refl _).alloc (Nat.le_refl _) _) (by simp)).mono ?_; rintro e w3 hp; rw [HT.out] at hp; obtain ⟨a1, rfl, hb3, hn1⟩ := hp.some; clear hp))
      go_ret2
      rw [HR.out, HT.out]
      have s1 := hb1.size
      have hbw : Below w.heap.size w w3 := hb1.trans (((Below.refl _ _).alloc (by omega) _).trans (hb3.mono (by simp; omega)))
      exact sPost_some hbw (hn1.wide (fun k hk => by simp at hk; omega))
end Go.Proofs.Ytlggbhakkhecmaa
