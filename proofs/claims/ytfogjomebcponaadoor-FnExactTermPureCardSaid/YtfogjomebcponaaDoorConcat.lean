/- Lists of texts as slices; append of one list to another; the library's Grow and Concat at lists of texts. -/
import Derived.Test.YtfogjomebcponaaDoorShapeF
import Derived.Test.YtfogjomebcponaaDoorConcatP
import Derived.Test.YtfogjomebcponaaDoorNames
import Derived.Test.YtfogjomebcponaaDoorSvP
import Derived.Lib.AppendZeros
import Derived.Laws.OwnMore
namespace Go.Proofs.YtfogjomebcponaaDoor
open Go.RowKit

set_option maxRecDepth 100000 in
set_option maxHeartbeats 1000000 in
theorem growNil_any (n : Nat) (hn : n ≤ 1000000) (w : World) : Calls Tryd.prog 85 #[.slice none 0 0, .int .i64 (n : Int)] w fun e w' => ∃ q c, e = .returned (.slice q 0 c) ∧ w'.ownsRow w.heap.size 9 1 (.slice q 0 c) 0 [] ∧ Below w.heap.size w w' := by
  obtain ⟨i0, hi0, hz0, hz1, hz2⟩ := info_parts Tryd.infoStr
  by_cases h0 : n = 0
  · subst h0
    go_enter Tryd.func85, Tryd.ntmps85
    go_wp2_with fail
    go_ret
    exact ⟨none, 0, rfl, World.ownsRow_nil _ _ _ _, Below.refl _ _⟩
  · have hp : 0 < n := by omega
    have hr := fun ty W => Go.Lib.run_append_nil_zeros (P := Tryd.prog) W 52 3 ty 9 i0 (.string ByteArray.empty) .i64 .i64 Tryd.underlying52 Tryd.underlying3 hi0 hz0 n hp (by omega) (by omega) (by rw [hz2]; omega)
    have hge := grownCap_ge w n 0 9
    have hle := grownCap_le_maxLen w n 0 9 (by unfold maxLen; omega)
    unfold maxLen at hle
    go_enter Tryd.func85, Tryd.ntmps85
    go_wp2_with (at_builtin; refine Go.Lib.wpList_append_run w rfl _ _ _ _ rfl _ _ rfl rfl _ _ (hr _ _) ?_)
    go_ret
    refine ⟨some ⟨w.heap.size, 0, none⟩, _, rfl, ⟨rfl, Or.inr ⟨w.heap.size, _, _, rfl, Nat.le_refl _, heap_new _ _ _ (by simp), Nat.zero_le _, by unfold maxLen; exact hle, ?_, by simp⟩⟩, ?_⟩
    · rw [Array.size_append, zeroCells_size _ _ rfl, zeroCells_size _ _ rfl]; omega
    · exact ((Below.refl _ _).drew).alloc (by simp) _

set_option maxRecDepth 100000 in
set_option maxHeartbeats 2000000 in
/-- slices.Concat at two lists of texts. -/
theorem concat_two (g c : Nat) (p1 p2 : Option Addr) (n1 n2 c1 c2 : Nat) (l1 l2 : List ByteArray) (w : World) (h1 : SV w p1 n1 c1 l1) (h2 : SV w p2 n2 c2 l2) (hn1 : n1 ≤ 100000) (hn2 : n2 ≤ 100000)
    (hc0 : w.cell? ⟨g, 0, none⟩ = some (.slice p1 n1 c1)) (hc1 : w.cell? ⟨g, 1, none⟩ = some (.slice p2 n2 c2)) :
    Calls Tryd.prog 72 #[.slice (some ⟨g, 0, none⟩) 2 c] w fun e w' => ∃ q kc, e = .returned (.slice q (n1 + n2) kc) ∧ w'.ownsRow w.heap.size 9 1 (.slice q (n1 + n2) kc) (n1 + n2) ((l1 ++ l2).map Value.string) ∧ Below w.heap.size w w' := by
  have H1 := hid h1
  have H2 := hid h2
  have HC0 := hid hc0
  have HC1 := hid hc1
  have HG := hid (fun n (hn : n ≤ 1000000) W => growNil_any n hn W)
  obtain ⟨i0, hi0, hz0, hz1, hz2⟩ := info_parts Tryd.infoStr
  clear h1 h2
  go_enter Tryd.func72, Tryd.ntmps72
  go_wp2_with fail
  go_loop [3, 11] (fun v u => (u = .int .i64 0 ∧ v = .int .i64 0) ∨ (u = .int .i64 1 ∧ v = .int .i64 (n1 : Int)) ∨ (u = .int .i64 2 ∧ v = .int .i64 ((n1 : Int) + n2))) (fun _ u => (2 - intOf u).toNat)
  case atStart => exact Or.inl ⟨rfl, rfl⟩
  case round =>
    rcases hrel with ⟨rfl, rfl⟩ | ⟨rfl, rfl⟩ | ⟨rfl, rfl⟩
    · go_wp2_with fail
      go_round
      case rel => exact Or.inr (Or.inl ⟨rfl, by simp⟩)
      case measure => simp [intOf]
    · go_wp2_with fail
      go_round
      case rel => exact Or.inr (Or.inr ⟨rfl, rfl⟩)
      case measure => simp [intOf]
    · clear hc0 hc1
      have hcast : ((n1 : Int) + n2) = ((n1 + n2 : Nat) : Int) := by simp
      have HG3 := hid (fun W => by have := HG.out (n1 + n2) (by omega) W; rw [← hcast] at this; exact this)
      clear hcast
      go_wp2_with (go_at_call 85; refine (HG3.out _).mono ?_; rintro e w1 ⟨q, kc, rfl, hown1, hb1⟩; have HO1 := hid hown1; have HB1 := hid hb1; clear hown1 hb1)
      go_loopw [6, 27] (fun v u wr => ∃ (q : Option Addr) (k kc : Nat) (l : List ByteArray), v = .slice q k kc ∧ wr.ownsRow w.heap.size 9 1 (.slice q k kc) k (l.map Value.string) ∧ Below w.heap.size w wr ∧
        ((u = .int .i64 0 ∧ l = [] ∧ k = 0) ∨ (u = .int .i64 1 ∧ l = l1 ∧ k = n1) ∨ (u = .int .i64 2 ∧ l = l1 ++ l2 ∧ k = n1 + n2))) (fun _ u _ => (2 - intOf u).toNat)
      case atStart => exact ⟨q, 0, kc, [], rfl, HO1.out, HB1.out, Or.inl ⟨rfl, rfl, rfl⟩⟩
      case round =>
        obtain ⟨q, k, kc, l, rfl, hown, hbel, hcase⟩ := hrel
        have HO := hid hown
        have HB := hid hbel
        have hz := hbel.size
        have hk := Kept.of_below hbel (Nat.le_refl _)
        have s1 := H1.out.kept hk
        have s2 := H2.out.kept hk
        have e0 := hk.cell HC0.out
        have e1 := hk.cell HC1.out
        have S1 := hid s1
        have S2 := hid s2
        clear hown hbel hk s1 s2
        have hlt := hid (fun k hk => (HO.out.lt k hk).1)
        rcases hcase with ⟨rfl, rfl, rfl⟩ | ⟨rfl, rfl, rfl⟩ | ⟨rfl, rfl, rfl⟩
        · go_wp2_with (at_builtin; refine wpList_append_sv _ rfl _ _ 52 rfl w.heap.size 9 i0 (.string ByteArray.empty) 16 Tryd.underlying52 hi0 hz0 hz1 hz2 rfl _ _ _ _ rfl HO.out _ _ _ l1 rfl S1.out (by unfold maxLen; omega) (by omega) (by omega) ?_; intro q' kc' w2 hown2 hg2; have HO2 := hid hown2; have HG2 := hid hg2; clear hown2 hg2)
          rw [Nat.zero_add] at HO2
          go_roundw
          case rel => exact ⟨q', n1, kc', l1, rfl, by simpa using HO2.out, HB.out.grown HG2.out (by omega) (fun k e => hlt.out k e), Or.inr (Or.inl ⟨rfl, rfl, rfl⟩)⟩
          case measure => simp [intOf]
        · go_wp2_with (at_builtin; refine wpList_append_sv _ rfl _ _ 52 rfl w.heap.size 9 i0 (.string ByteArray.empty) 16 Tryd.underlying52 hi0 hz0 hz1 hz2 rfl _ _ _ _ rfl HO.out _ _ _ l2 rfl S2.out (by unfold maxLen; omega) (by omega) (by omega) ?_; intro q' kc' w2 hown2 hg2; have HO2 := hid hown2; have HG2 := hid hg2; clear hown2 hg2)
          go_roundw
          case rel => exact ⟨q', _, kc', l ++ l2, rfl, by rw [List.map_append]; exact HO2.out, HB.out.grown HG2.out (by omega) (fun k e => hlt.out k e), Or.inr (Or.inr ⟨rfl, rfl, rfl⟩)⟩
          case measure => simp [intOf]
        · go_wp2_with fail
          go_ret
          exact ⟨q, kc, rfl, HO.out, HB.out⟩
end Go.Proofs.YtfogjomebcponaaDoor
