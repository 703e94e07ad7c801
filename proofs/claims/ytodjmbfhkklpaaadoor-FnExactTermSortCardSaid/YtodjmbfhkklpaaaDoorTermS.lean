/- TermSort of the program. -/
import Derived.Test.YtodjmbfhkklpaaaDoorTermR
namespace Go.Proofs.YtodjmbfhkklpaaaDoor
open Go.RowKit

set_option maxRecDepth 100000 in
set_option maxHeartbeats 1000000 in
theorem implTermSort_any (s : ByteArray) (hs : s.size ≤ 400000000) (w : World) : Calls Tryd.prog 15 #[.string s] w fun e w' => e = .returned (.string (sortOf s)) ∧ Below w.heap.size w w' := by
  have HC := hid (fun W => readTerm_any s hs W)
  cases hr : readTm s with
  | none =>
    have HR := hid hr
    have HS := hid (show sortOf s = ByteArray.empty by rw [sortOf, hr]; rfl)
    clear hr
    go_enter Tryd.func15, Tryd.ntmps15
    go_wp2_with (go_at_call 20; refine (HC.out _).mono ?_; rintro e w1 hp; rw [HR.out] at hp; obtain ⟨rfl, hb1⟩ := hp.none; clear hp)
    go_ret
    exact ⟨ret_str HS.out.symm, hb1⟩
  | some m =>
    have HR := hid hr
    have hm : sortOf s = if m.isVal = true then strV else strC := by
      rw [sortOf, hr]
      cases h : m.isVal <;> simp [h, srtS]
    have HS := hid hm
    clear hr hm
    go_enter Tryd.func15, Tryd.ntmps15
    go_wp2_with (first | (go_at_call 26; have _ := hb1; refine (sort_any hd _ _ hc1).mono ?_; rintro e w2 ⟨rfl, rfl⟩) | (go_at_call 20; refine (HC.out _).mono ?_; rintro e w1 hp; rw [HR.out] at hp; obtain ⟨b, rfl, hb1, hn1⟩ := hp.some; clear hp; obtain ⟨hd, hc1, hv1⟩ := hn1.head; have HV := hid hv1; clear hn1 hv1))
    go_ret
    exact ⟨ret_str (by rw [HS.out, HV.out]; rfl), hb1⟩
end Go.Proofs.YtodjmbfhkklpaaaDoor
