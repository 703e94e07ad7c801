/- Merged: MvI3. -/
import Derived.Test.YtmjhfekcbagibaaGreatDoorEV38
namespace Go.Proofs.YtmjhfekcbagibaaGreatDoor
open Go.RowKit

set_option maxRecDepth 100000 in
set_option maxHeartbeats 4000000 in
theorem l7Start_no3 (s : ByteArray) (hs : s.size ≤ 400000000) (w : World) (b f : Int) {m : Sx} (hr : readSx s = some m) (hcl : ((clT s).toList == []) = false) (i0 : inB b 0 1 = false) : Calls Tryz.prog 6 #[.string s, .int .i64 b, .int .i64 f] w (StartPost none 0 0 w) := by
  have HC := hid (fun W => l7Read_any s hs W)
  have HE := hid (sxTree_eq s)
  have HCL := hid (fun W => l7Closed_any s hs W)
  have HT := hid (show sxTree s = some m.tree by rw [HE.out, hr]; rfl)
  obtain ⟨X, hX⟩ : ∃ X, clT s = X := ⟨_, rfl⟩
  rw [hX] at HCL hcl
  have hxe : (X.toList == []) = false := by rw [hcl]
  have hxe2 : (!X.toList == []) = true := by rw [hxe]; rfl
  clear hX hcl
  have HI0 := hid (fun W => (show Calls Tryz.prog 15 #[.int .i64 b, .int .i64 0, .int .i64 1] W fun e w' => e = .returned (.bool false) ∧ W = w' from by
    have h := l6InB_any b 0 1 W
    rw [i0] at h; exact h))
  clear hr i0

  go_enter Tryz.func6, Tryz.ntmps6
  go_wp2_with (go_at_call 13; refine (HC.out _).mono ?_; rintro e w1 hp; rw [HT.out] at hp; obtain ⟨pa, pp, pl, pc, rfl, hb1, htr⟩ := hp.some; clear hp; have HTR := hid htr; clear htr; have HB1 := hid hb1; obtain ⟨⟨d0, d1⟩, u0, u1, z0, z1, z2, z3⟩ := start_t9 (pa := pa) (pp := pp) (pl := pl) (pc := pc) hb1 (Below.refl _ _); have HNE := hid (show w1.heap.size ≠ w.heap.size from by have := hb1.size; simp at this; omega); clear hb1)
  have KW := hid (fun (W : World) (h : Below (w1.alloc (.cells #[.string pa, .slice pp pl pc] 27)).heap.size (w1.alloc (.cells #[.string pa, .slice pp pl pc] 27)) W) => start_t9 HB1.out h)
  first
    | (go_region_with (first
        | (go_at_call 15; ((with_reducible refine (HI0.out _).mono ?_); rintro e w9 ⟨rfl, rfl⟩))
        | ((go_at_call 14; refine (HCL.out _).mono ?_; rintro e w3 ⟨rfl, hb3⟩; have hb03 : Below (w1.alloc (.cells #[.string pa, .slice pp pl pc] 27)).heap.size (w1.alloc (.cells #[.string pa, .slice pp pl pc] 27)) w3 := (by first | exact below_nx hb3 (Below.refl _ _).drew | exact below_nx hb3 ((Below.refl _ _).alloc (Nat.le_refl _) _).drew | exact below_nx hb3 ((Below.refl _ _).alloc (Nat.le_refl _) _) | exact hb3); (first | have HBR := hid (undrewB hb3) | have HBR := hid hb3); obtain ⟨e3, v0, v1, y0, y1, x2, x3⟩ := KW.out w3 hb03; have E3 := hid e3; have HB3 := hid hb03;  obtain ⟨m0, m1⟩ := e3; clear hb3 hb03))))
    | fail
  all_goals
    go_wp2_with fail
    first
      | (refine bodyPost_ret (v := .tuple #[.agg #[.string pa, .slice pp pl pc], .pointer (some ⟨w3.heap.size, 0, none⟩), .bool false]) (by simp [results, Tryz.results6, go_sem, x2, v0, v1]) rfl ?_; exact ⟨(start_below HB1.out HB3.out).alloc (start_below HB1.out HB3.out).size _, pa, pp, pl, pc, _, rfl⟩)
      | (refine bodyPost_ret (v := .tuple #[.agg #[.string pa, .slice pp pl pc], .pointer (some ⟨w1.heap.size + 1, 0, none⟩), .bool false]) (by simp [results, Tryz.results6, go_sem, v0, v1]) rfl ?_; exact ⟨start_below HB1.out HB3.out, pa, pp, pl, pc, _, rfl⟩)
end Go.Proofs.YtmjhfekcbagibaaGreatDoor
