/- The program's reading of a type. -/
import Derived.Test.YtfogjomebcponaaDoorKindTy
import Derived.Test.YtfogjomebcponaaDoorSpecT
import Derived.Test.YtfogjomebcponaaDoorTyR0
namespace Go.Proofs.YtfogjomebcponaaDoor
open Go.RowKit

set_option maxRecDepth 100000 in
set_option maxHeartbeats 2000000 in
theorem readType_any (s : ByteArray) (hs : s.size ≤ 400000000) (w : World) : Calls Tryd.prog 11 #[.string s] w (TyPost (readTy s) w) := by
  have HC := hid (fun W => readPhrase_any s hs W)
  cases hp : parse s with
  | none =>
    have HP := hid hp
    have HR := hid (show readTy s = none by rw [readTy, hp])
    clear hp
    go_enter Tryd.func11, Tryd.ntmps11
    go_wp2_with (go_at_call 22; refine (HC.out _).mono ?_; rintro e w1 hp; rw [HP.out] at hp; obtain ⟨pa, pp, pl, pc, rfl, hpl, hb1⟩ := hp.none; clear hp)
    go_ret2
    rw [HR.out]
    exact ⟨rfl, hb1.alloc hb1.size _⟩
  | some t =>
    have hwt := parse_wt hp
    have hok := hid (parse_ok hp)
    have HP := hid hp
    have HR := hid (show readTy s = tyLim t by rw [readTy, hp]; rfl)
    clear hp
    cases hty : tyLim t with
    | none =>
      have HT := hid hty
      clear hty
      go_enter Tryd.func11, Tryd.ntmps11
      go_wp2_with (first | (go_at_call 22; refine (HC.out _).mono ?_; rintro e w1 hp; rw [HP.out] at hp; obtain ⟨pa, pp, pl, pc, rfl, hb1, ht⟩ := hp.some; clear hp; have HD := hid (fun W hk hs => limitedType_any ht hwt hok.out W hk hs); clear ht) | (go_at_call 23; refine (HD.out _ ((Kept.refl _).alloc (Nat.le_refl _) _) (by simp)).mono ?_; rintro e w3 hp; rw [HT.out] at hp; obtain ⟨rfl, hb3⟩ := hp.none; clear hp))
      go_ret2
      rw [HR.out, HT.out]
      have s1 := hb1.size
      exact ⟨rfl, hb1.trans (((Below.refl _ _).alloc (by omega) _).trans (hb3.mono (by simp; omega)))⟩
    | some tp =>
      have HT := hid hty
      clear hty
      go_enter Tryd.func11, Tryd.ntmps11
      go_wp2_with (first | (go_at_call 22; refine (HC.out _).mono ?_; rintro e w1 hp; rw [HP.out] at hp; obtain ⟨pa, pp, pl, pc, rfl, hb1, ht⟩ := hp.some; clear hp; have HD := hid (fun W hk hs => limitedType_any ht hwt hok.out W hk hs); clear ht) | (go_at_call 23; refine (HD.out _ ((Kept.refl _).alloc (Nat.le_refl _) _) (by simp)).mono ?_; rintro e w3 hp; rw [HT.out] at hp; obtain ⟨rfl, hb3⟩ := hp.some; clear hp))
      go_ret2
      rw [HR.out, HT.out]
      have s1 := hb1.size
      exact ⟨rfl, hb1.trans (((Below.refl _ _).alloc (by omega) _).trans (hb3.mono (by simp; omega)))⟩
end Go.Proofs.YtfogjomebcponaaDoor
