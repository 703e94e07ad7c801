/- StateStart of the model. -/
import Derived.Test.YtiipofgnoabhoaaGreatDoorTvStatD
namespace Go.Proofs.YtiipofgnoabhoaaGreatDoor
open Go.RowKit

set_option maxRecDepth 100000 in
set_option maxHeartbeats 2000000 in
theorem specStateStart_any (s : ByteArray) (hs : s.size ≤ 400000000) (bit : Int) (w : World) : Calls Tryz.prog 32 #[.string s, .int .i64 bit] w fun e w' =>
    (∃ p : Option Addr, e = .returned (.tuple #[.agg #[.string (if (stC s bit).isSome = true then s else ByteArray.empty), .slice p 0 0, .int .i64 (if (stC s bit).isSome = true then bit else 0)], .bool (stC s bit).isSome])) ∧ Below w.heap.size w w' := by
  have HC := hid (fun g W => specStateValid_start s hs g bit W)
  have HN := hid (fun w1 (hb : Below (((w.alloc (.cells #[.string { data := #[] }, .slice none 0 0, .int .i64 0] 42)).alloc (.cells #[] 9)).alloc (.cells #[.string s, .slice (some ⟨w.heap.size + 1, 0, none⟩) 0 0, .int .i64 bit] 42)).heap.size (((w.alloc (.cells #[.string { data := #[] }, .slice none 0 0, .int .i64 0] 42)).alloc (.cells #[] 9)).alloc (.cells #[.string s, .slice (some ⟨w.heap.size + 1, 0, none⟩) 0 0, .int .i64 bit] 42)) w1) => (show w1.heap[w.heap.size]? = some (.cells #[.string ByteArray.empty, .slice none 0 0, .int .i64 0] 42 (0, 0)) from
    (hb.block _ (by simp; omega)).trans ((heap_alloc_old _ _ (by simp <;> omega)).trans ((heap_alloc_old _ _ (by simp <;> omega)).trans (heap_alloc_new w _)))))
  have HM := hid (fun w1 (hb : Below (((w.alloc (.cells #[.string { data := #[] }, .slice none 0 0, .int .i64 0] 42)).alloc (.cells #[] 9)).alloc (.cells #[.string s, .slice (some ⟨w.heap.size + 1, 0, none⟩) 0 0, .int .i64 bit] 42)).heap.size (((w.alloc (.cells #[.string { data := #[] }, .slice none 0 0, .int .i64 0] 42)).alloc (.cells #[] 9)).alloc (.cells #[.string s, .slice (some ⟨w.heap.size + 1, 0, none⟩) 0 0, .int .i64 bit] 42)) w1) => (show w1.heap[w.heap.size + 1 + 1]? = some (.cells #[.string s, .slice (some ⟨w.heap.size + 1, 0, none⟩) 0 0, .int .i64 bit] 42 (0, 0)) from
    (hb.block _ (by simp)).trans (heap_new _ _ _ (by simp))))
  have HW := hid (fun w1 (hb : Below (((w.alloc (.cells #[.string { data := #[] }, .slice none 0 0, .int .i64 0] 42)).alloc (.cells #[] 9)).alloc (.cells #[.string s, .slice (some ⟨w.heap.size + 1, 0, none⟩) 0 0, .int .i64 bit] 42)).heap.size (((w.alloc (.cells #[.string { data := #[] }, .slice none 0 0, .int .i64 0] 42)).alloc (.cells #[] 9)).alloc (.cells #[.string s, .slice (some ⟨w.heap.size + 1, 0, none⟩) 0 0, .int .i64 bit] 42)) w1) => (show Below w.heap.size w w1 from
    ((((Below.refl _ w).alloc (Nat.le_refl _) (.cells #[.string { data := #[] }, .slice none 0 0, .int .i64 0] 42)).alloc (by simp) (.cells #[] 9)).alloc (by simp; omega) (.cells #[.string s, .slice (some ⟨w.heap.size + 1, 0, none⟩) 0 0, .int .i64 bit] 42)).trans (hb.mono (by simp; omega))))
  have km := cells3_of (HM.out _ (Below.refl _ _))
  cases hb : (stC s bit).isSome with
  | false =>
    rw [hb] at HC
    clear hb
    go_enter Tryz.func32, Tryz.ntmps32
    go_wp2_with (go_at_call 28; refine (HC.out _ _).mono ?_; rintro e w1 ⟨rfl, hb1⟩; have hn := HN.out w1 hb1; have kn := cells3_of hn; have km1 := cells3_of (HM.out w1 hb1); have kz := (cells3_of (set_three hn (.string { data := #[] }) (.slice none 0 0) (.int .i64 0))).1)
    refine bodyPost_ret (v := .tuple #[.agg #[.string ByteArray.empty, .slice none 0 0, .int .i64 0], .bool false]) (by simp [results, Tryz.results32, go_sem, kz.1, kz.2.1, kz.2.2]; rfl) rfl ?_
    have hbw := HW.out w1 hb1
    exact ⟨⟨none, rfl⟩, ((hbw.setCell (Nat.le_refl _) _).setCell (Nat.le_refl _) _).setCell (Nat.le_refl _) _⟩
  | true =>
    rw [hb] at HC
    clear hb
    go_enter Tryz.func32, Tryz.ntmps32
    go_wp2_with (go_at_call 28; refine (HC.out _ _).mono ?_; rintro e w1 ⟨rfl, hb1⟩; have hn := HN.out w1 hb1; have kn := cells3_of hn; have km1 := cells3_of (HM.out w1 hb1); have kz := (cells3_of (set_three hn (.string s) (.slice (some ⟨w.heap.size + 1, 0, none⟩) 0 0) (.int .i64 bit))).1)
    refine bodyPost_ret (v := .tuple #[.agg #[.string s, .slice (some ⟨w.heap.size + 1, 0, none⟩) 0 0, .int .i64 bit], .bool true]) (by simp [results, Tryz.results32, go_sem, kz.1, kz.2.1, kz.2.2]) rfl ?_
    have hbw := HW.out w1 hb1
    exact ⟨⟨some ⟨w.heap.size + 1, 0, none⟩, rfl⟩, ((hbw.setCell (Nat.le_refl _) _).setCell (Nat.le_refl _) _).setCell (Nat.le_refl _) _⟩
end Go.Proofs.YtiipofgnoabhoaaGreatDoor
