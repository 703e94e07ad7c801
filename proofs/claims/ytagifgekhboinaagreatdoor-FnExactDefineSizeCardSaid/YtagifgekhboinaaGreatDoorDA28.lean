/- Merged: SortS, SizeP. -/
import Derived.Test.YtagifgekhboinaaGreatDoorDASSortT0
import Derived.Test.YtagifgekhboinaaGreatDoorDA26
namespace Go.Proofs.YtagifgekhboinaaGreatDoor
open Go.RowKit

set_option maxHeartbeats 1000000 in
theorem specTermSort_any (s : ByteArray) (hs : s.size ≤ 400000000) (w : World) : Calls Tryz.prog 44 #[.string s] w fun e w' => e = .returned (.string (sortOf s)) ∧ Below w.heap.size w w' := by
  have HC := hid (fun W => l2Term_any s hs W)
  cases ht : termTree s with
  | none =>
    have HR := hid (termTree_no ht)
    have HT := hid ht
    clear ht
    go_enter Tryz.func44, Tryz.ntmps44
    go_wp2_with (go_at_call 24; refine (HC.out _).mono ?_; rintro e w1 hp; rw [HT.out] at hp; obtain ⟨pa, pp, pl, pc, rfl, hpl, hb1⟩ := hp.none; clear hp)
    go_ret
    exact ⟨ret_str (by rw [HR.out]; rfl), hb1.alloc hb1.size _⟩
  | some t =>
    obtain ⟨hpt, hso⟩ := termTree_sort ht
    have hwt := parse_wt hpt
    have hok := hid (parse_ok hpt)
    have HR := hid hso
    have HT := hid ht
    clear ht hpt hso
    go_enter Tryz.func44, Tryz.ntmps44
    go_wp2_with (first | (go_at_call 24; refine (HC.out _).mono ?_; rintro e w1 hp; rw [HT.out] at hp; obtain ⟨pa, pp, pl, pc, rfl, hb1, htr⟩ := hp.some; clear hp; have HD := hid (fun W hk hs => l2Sort_any htr hwt hok.out W hk hs); clear htr) | (go_at_call 52; refine (HD.out _ ((Kept.refl _).alloc (Nat.le_refl _) _) (by simp)).mono ?_; rintro e w2 ⟨rfl, hb2⟩))
    go_ret
    have s1 := hb1.size
    exact ⟨ret_str HR.out.symm, hb1.trans (((Below.refl _ _).alloc s1 _).trans (hb2.mono (by simp; omega)))⟩

end Go.Proofs.YtagifgekhboinaaGreatDoor

namespace Go.Proofs.YtagifgekhboinaaGreatDoor
open Go.RowKit

theorem termTree_none {s : ByteArray} (h : termTree s = none) : readTm s = none := by
  have h1 := termTree_read s
  rw [h] at h1
  cases hr : readTm s with
  | none => rfl
  | some m => rw [hr] at h1; simp at h1
theorem termTree_some {s : ByteArray} {t : Tree} (h : termTree s = some t) : parse s = some t ∧ t.srt ≠ none ∧ t.size ≤ 1500 ∧ ∃ m, readTm s = some m ∧ t.tm [] = some m := by
  have h1 := termTree_read s
  rw [h] at h1
  cases hr : readTm s with
  | none => rw [hr] at h1; simp at h1
  | some m =>
    obtain ⟨u, hp, hm, hs, _⟩ := readTm_inv hr
    unfold termTree at h
    rw [hp] at h; simp only at h
    split at h
    · rename_i hc; simp at h; subst h; exact ⟨hp, hc.1, hs, m, rfl, hm⟩
    · simp at h
end Go.Proofs.YtagifgekhboinaaGreatDoor
