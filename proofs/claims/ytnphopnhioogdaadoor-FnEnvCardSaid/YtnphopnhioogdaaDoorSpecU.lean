/- The model's helper l2With. -/
import Derived.Test.YtnphopnhioogdaaDoorHasS
import Derived.Test.YtnphopnhioogdaaDoorSpecA
namespace Go.Proofs.YtnphopnhioogdaaDoor
open Go.RowKit

set_option maxRecDepth 100000 in
set_option maxHeartbeats 1000000 in
theorem l2With_any (l1 l2 : List ByteArray) (p1 p2 : Option Addr) (n1 n2 c1 c2 : Nat) (w : World) (h1 : SV w p1 n1 c1 l1) (h2 : SV w p2 n2 c2 l2) (hn1 : n1 ≤ 100000) (hn2 : n2 ≤ 100000) :
    Calls Tryd.prog 56 #[.slice p1 n1 c1, .slice p2 n2 c2] w (OwnS (l1 ++ l2) w) := by
  obtain ⟨i0, hi0, hz0, hz1, hz2⟩ := info_parts Tryd.infoStr
  have H1 := hid (h1.kept ((Kept.refl w).alloc (Nat.le_refl _) (.cells #[] 9)))
  have H2 := hid h2
  have L1 := hid h1.1
  have L2 := hid h2.1
  have HO := hid (own_empty w w.heap.size (Nat.le_refl _))
  clear h1 h2
  go_enter Tryd.func56, Tryd.ntmps56
  go_wp2_with (first | (at_builtin; have _ := HOx; refine wpList_append_sv _ rfl _ _ 23 rfl w.heap.size 9 i0 (.string ByteArray.empty) 16 Tryd.underlying23 hi0 hz0 hz1 hz2 rfl _ _ _ _ rfl HOx.out _ _ _ l2 rfl HS2.out (by unfold maxLen; omega) (by omega) (by have := HG1.out.size; simp at this; omega) ?_; intro q2 k2 w2 ho2 hg2; have HO2 := hid ho2; have HG2 := hid hg2; clear ho2 hg2) | (at_builtin; refine wpList_append_sv _ rfl _ _ 23 rfl w.heap.size 9 i0 (.string ByteArray.empty) 16 Tryd.underlying23 hi0 hz0 hz1 hz2 rfl _ _ _ _ rfl HO.out _ _ _ l1 rfl H1.out (by unfold maxLen; omega) (by omega) (by simp) ?_; intro q1 k1 w1 ho1 hg1; have hb1 := ((Below.refl w.heap.size w).alloc (Nat.le_refl _) (.cells #[] 9)).grown hg1 (by simp) (fun k e => (HO.out.lt k e).1); have HB1 := hid hb1; have HS2 := hid (H2.out.kept (Kept.of_below hb1 (Nat.le_refl _))); simp only [Nat.zero_add, List.nil_append] at ho1; have HOx := hid ho1; have HG1 := hid hg1; clear ho1 hg1 hb1))
  go_ret
  refine ⟨q2, k2, ?_, ?_, ?_⟩
  · rw [List.length_append, L1.out, L2.out]; simp
  · rw [List.length_append, L1.out, L2.out, List.map_append]; simpa using HO2.out
  · exact HB1.out.grown HG2.out HB1.out.size (fun k e => (HOx.out.lt k e).1)
end Go.Proofs.YtnphopnhioogdaaDoor
