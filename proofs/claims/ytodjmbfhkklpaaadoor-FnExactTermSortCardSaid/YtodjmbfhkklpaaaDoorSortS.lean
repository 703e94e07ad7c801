/- TermSort by the model. -/
import Derived.Test.YtodjmbfhkklpaaaDoorSortT0
namespace Go.Proofs.YtodjmbfhkklpaaaDoor
open Go.RowKit

set_option maxHeartbeats 1000000 in
theorem specTermSort_any (s : ByteArray) (hs : s.size ≤ 400000000) (w : World) : Calls Tryd.prog 14 #[.string s] w fun e w' => e = .returned (.string (sortOf s)) ∧ Below w.heap.size w w' := by
  have HC := hid (fun W => l2Term_any s hs W)
  cases ht : termTree s with
  | none =>
    have HR := hid (termTree_no ht)
    have HT := hid ht
    clear ht
    go_enter Tryd.func14, Tryd.ntmps14
    go_wp2_with (go_at_call 18; refine (HC.out _).mono ?_; rintro e w1 hp; rw [HT.out] at hp; obtain ⟨pa, pp, pl, pc, rfl, hpl, hb1⟩ := hp.none; clear hp)
    go_ret
    exact ⟨ret_str (by rw [HR.out]; rfl), hb1.alloc hb1.size _⟩
  | some t =>
    obtain ⟨hpt, hso⟩ := termTree_sort ht
    have hwt := parse_wt hpt
    have hok := hid (parse_ok hpt)
    have HR := hid hso
    have HT := hid ht
    clear ht hpt hso
    go_enter Tryd.func14, Tryd.ntmps14
    go_wp2_with (first | (go_at_call 18; refine (HC.out _).mono ?_; rintro e w1 hp; rw [HT.out] at hp; obtain ⟨pa, pp, pl, pc, rfl, hb1, htr⟩ := hp.some; clear hp; have HD := hid (fun W hk hs => l2Sort_any htr hwt hok.out W hk hs); clear htr) | (go_at_call 25; refine (HD.out _ ((Kept.refl _).alloc (Nat.le_refl _) _) (by simp)).mono ?_; rintro e w2 ⟨rfl, hb2⟩))
    go_ret
    have s1 := hb1.size
    exact ⟨ret_str HR.out.symm, hb1.trans (((Below.refl _ _).alloc s1 _).trans (hb2.mono (by simp; omega)))⟩

end Go.Proofs.YtodjmbfhkklpaaaDoor
