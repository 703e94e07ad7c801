/- TypeCount of the program. -/
import Derived.Test.YtmffcicpiialcaaCountE
namespace Go.Proofs.Ytmffcicpiialcaa
open Go.RowKit Go.Maps

set_option maxRecDepth 100000 in
set_option maxHeartbeats 1000000 in
theorem implTypeCount_any (s : ByteArray) (hs : s.size ≤ 400000000) (w : World) : Calls Try.prog 8 #[.string s] w fun e w' => e = .returned (.int .i64 (cntO (readTy s))) ∧ Below w.heap.size w w' := by
  have HC := hid (fun W => readType_any s hs W)
  cases hr : readTy s with
  | none =>
    have HR := hid hr
    clear hr
    go_enter Try.func8, Try.ntmps8
    go_wp2_with (go_at_call 21; refine (HC.out _).mono ?_; rintro e w1 hp; rw [HR.out] at hp; obtain ⟨rfl, hb1⟩ := hp.none; clear hp)
    go_ret
    exact ⟨rfl, hb1⟩
  | some ty =>
    have hsm := readTy_small hr
    have HR := hid hr
    have HD := hid (fun (W : World) => count_any ty hsm (W.alloc (.map #[] 0)) W.heap.size 0 (.map []) (World.ownsMap_made W Try.prog 9 (plainElem Try.prog 3)) good_none (by omega))
    have hmm := @run_makeMap Try.prog
    obtain ⟨V, hV⟩ : ∃ V, cntO (some ty) = V := ⟨_, rfl⟩
    rw [show cntV ty.cnt = V from hV] at HD
    rw [hV]
    clear hr hsm hV
    go_enter Try.func8, Try.ntmps8
    go_wp2_with (first | (go_at_call 21; refine (HC.out _).mono ?_; rintro e w1 hp; rw [HR.out] at hp; obtain ⟨rfl, hb1⟩ := hp.some; clear hp) | (go_at_call 22; refine (HD.out _).mono ?_; rintro e w2 ⟨rfl, hg2, hrest⟩; have HG2 := hid hg2; clear hg2 hrest))
    go_ret
    exact ⟨rfl, grown_below hb1 HG2.out⟩
end Go.Proofs.Ytmffcicpiialcaa
