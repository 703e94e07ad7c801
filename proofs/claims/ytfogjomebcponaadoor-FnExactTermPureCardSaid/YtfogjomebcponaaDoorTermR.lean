/- The program's reading of a text as a term. -/
import Derived.Test.YtfogjomebcponaaDoorTermQ
import Derived.Test.YtfogjomebcponaaDoorImplB
namespace Go.Proofs.YtfogjomebcponaaDoor
open Go.RowKit

/-- What the program reads a text as. -/
def readTm (s : ByteArray) : Option Tm := match parse s with
  | some t => if t.size ≤ 1500 then t.tm [] else none
  | none => none

set_option maxRecDepth 100000 in
set_option maxHeartbeats 2000000 in
theorem readTermWithin_any (s : ByteArray) (hs : s.size ≤ 400000000) (w : World) : Calls Tryd.prog 30 #[.string s, .slice none 0 0] w (TmPost (readTm s) w) := by
  have HC := hid (fun W => readPhrase_any s hs W)
  cases hp : parse s with
  | none =>
    have HP := hid hp
    have HR := hid (show readTm s = none by rw [readTm, hp])
    clear hp
    go_enter Tryd.func30, Tryd.ntmps30
    go_wp2_with (go_at_call 22; refine (HC.out _).mono ?_; rintro e w1 hp; rw [HP.out] at hp; obtain ⟨pa, pp, pl, pc, rfl, hpl, hb1⟩ := hp.none; clear hp)
    go_ret2
    rw [HR.out]
    exact ⟨hb1.alloc hb1.size _, rfl⟩
  | some t =>
    have hwt := parse_wt hp
    have hsz := size_le_wt t
    have hsz2 : t.size ≤ 12000 := by omega
    have hok := hid (parse_ok hp)
    have HP := hid hp
    by_cases h15 : t.size ≤ 1500
    · have HR := hid (show readTm s = t.tm [] by rw [readTm, hp]; simp only; rw [if_pos h15])
      have h15i : (t.size : Int) ≤ 1500 := by omega
      clear hp
      cases hty : t.tm [] with
      | none =>
        have HT := hid hty
        clear hty
        go_enter Tryd.func30, Tryd.ntmps30
        go_wp2_with (first | (go_at_call 45; have _ := hb2; refine (HE.out _ _ _ (((Kept.refl _).alloc (Nat.le_refl _) _).below hb2 (by simp)) (by have := hb2.size; simp at this; omega) (SV.nil _)).mono ?_; rintro e w3 hp; rw [HT.out] at hp; obtain ⟨rfl, hb3⟩ := hp.none; clear hp) | (go_at_call 35; refine (HD.out _ ((Kept.refl _).alloc (Nat.le_refl _) _) (by simp)).mono ?_; rintro e w2 ⟨rfl, hb2⟩; have kc := cells_of_pair (block_below (heap_new w1 (.cells #[.string pa, .slice pp pl pc] 45) _ rfl) hb2 (by simp))) | (go_at_call 22; refine (HC.out _).mono ?_; rintro e w1 hp; rw [HP.out] at hp; obtain ⟨pa, pp, pl, pc, rfl, hb1, ht⟩ := hp.some; clear hp; have HD := hid (fun W hk hs => atoms_any ht hsz2 W hk hs); have HE := hid (fun p c W hk hs hv => termOfPhrase_any ht hwt hok.out [] p 0 c W hk hs hv (by omega)); clear ht))
        go_ret2
        rw [HR.out, HT.out]
        have s1 := hb1.size
        have s2 := hb2.size
        simp at s2
        exact ⟨hb1.trans (((Below.refl _ _).alloc (by omega) _).trans ((hb2.mono (by simp; omega)).trans (hb3.mono (by omega)))), rfl⟩
      | some m =>
        have HT := hid hty
        clear hty
        go_enter Tryd.func30, Tryd.ntmps30
        go_wp2_with (first | (go_at_call 45; have _ := hb2; refine (HE.out _ _ _ (((Kept.refl _).alloc (Nat.le_refl _) _).below hb2 (by simp)) (by have := hb2.size; simp at this; omega) (SV.nil _)).mono ?_; rintro e w3 hp; rw [HT.out] at hp; obtain ⟨a, rfl, hb3, hn3⟩ := hp.some; have HN := hid hn3; clear hp hn3) | (go_at_call 35; refine (HD.out _ ((Kept.refl _).alloc (Nat.le_refl _) _) (by simp)).mono ?_; rintro e w2 ⟨rfl, hb2⟩; have kc := cells_of_pair (block_below (heap_new w1 (.cells #[.string pa, .slice pp pl pc] 45) _ rfl) hb2 (by simp))) | (go_at_call 22; refine (HC.out _).mono ?_; rintro e w1 hp; rw [HP.out] at hp; obtain ⟨pa, pp, pl, pc, rfl, hb1, ht⟩ := hp.some; clear hp; have HD := hid (fun W hk hs => atoms_any ht hsz2 W hk hs); have HE := hid (fun p c W hk hs hv => termOfPhrase_any ht hwt hok.out [] p 0 c W hk hs hv (by omega)); clear ht))
        go_ret2
        rw [HR.out, HT.out]
        have s1 := hb1.size
        have s2 := hb2.size
        simp at s2
        exact ⟨hb1.trans (((Below.refl _ _).alloc (by omega) _).trans ((hb2.mono (by simp; omega)).trans (hb3.mono (by omega)))), a, rfl, HN.out.keep (fun _ _ _ => rfl) (fun k hk _ => by omega)⟩
    · have HR := hid (show readTm s = none by rw [readTm, hp]; simp only; rw [if_neg h15])
      have h15i : 1500 < (t.size : Int) := by omega
      clear hp
      go_enter Tryd.func30, Tryd.ntmps30
      go_wp2_with (first | (go_at_call 35; have _ := hb1; refine (HD.out _ ((Kept.refl _).alloc (Nat.le_refl _) _) (by simp)).mono ?_; rintro e w2 ⟨rfl, hb2⟩) | (go_at_call 22; refine (HC.out _).mono ?_; rintro e w1 hp; rw [HP.out] at hp; obtain ⟨pa, pp, pl, pc, rfl, hb1, ht⟩ := hp.some; clear hp; have HD := hid (fun W hk hs => atoms_any ht hsz2 W hk hs); clear ht))
      go_ret2
      rw [HR.out]
      have s1 := hb1.size
      exact ⟨hb1.trans (((Below.refl _ _).alloc (by omega) _).trans (hb2.mono (by simp; omega))), rfl⟩

set_option maxRecDepth 100000 in
set_option maxHeartbeats 1000000 in
theorem readTerm_any (s : ByteArray) (hs : s.size ≤ 400000000) (w : World) : Calls Tryd.prog 16 #[.string s] w (TmPost (readTm s) w) := by
  have HC := hid (fun W => readTermWithin_any s hs W)
  cases hr : readTm s with
  | none =>
    rw [hr] at HC
    clear hr
    go_enter Tryd.func16, Tryd.ntmps16
    go_wp2_with (go_at_call 30; refine (HC.out _).mono ?_; rintro e w1 hp; obtain ⟨rfl, hb1⟩ := hp.none; clear hp)
    go_ret2
    exact ⟨hb1, rfl⟩
  | some m =>
    rw [hr] at HC
    clear hr
    go_enter Tryd.func16, Tryd.ntmps16
    go_wp2_with (go_at_call 30; refine (HC.out _).mono ?_; rintro e w1 hp; obtain ⟨a, rfl, hb1, hn1⟩ := hp.some; have HN := hid hn1; clear hp hn1)
    go_ret2
    exact ⟨hb1, a, rfl, HN.out⟩

/-- A sort's text. -/
def srtS : Option Bool → ByteArray
  | some true => strV
  | some false => strC
  | none => ByteArray.empty
/-- What TermSort answers. -/
def sortOf (s : ByteArray) : ByteArray := srtS ((readTm s).map Tm.isVal)
end Go.Proofs.YtfogjomebcponaaDoor
