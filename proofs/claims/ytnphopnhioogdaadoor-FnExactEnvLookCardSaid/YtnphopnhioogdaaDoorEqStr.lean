/- Two lists of texts are told equal. -/
import Derived.Test.YtnphopnhioogdaaDoorValsP
import Derived.Test.YtnphopnhioogdaaDoorSpecA
import Derived.Deep.QuietTactic
import Derived.BigQuiet
namespace Go.Proofs.YtnphopnhioogdaaDoor
open Go.RowKit

set_option maxHeartbeats 1000000 in
theorem eqStrings_same (xs : List ByteArray) (p q : Option Addr) (n c d : Nat) (w : World) (hn : xs.length = n) (hnb : n ≤ 100000000) (hp : Vals w p (xs.map .string)) (hq : Vals w q (xs.map .string)) :
    Calls Tryd.prog 22 #[.slice p n c, .slice q n d] w fun e w' => e = .returned (.bool true) ∧ Below w.heap.size w w' := by
  have HP := hid hp
  have HQ := hid hq
  have HN := hid hn
  clear hp hq hn
  go_enter Tryd.func22, Tryd.ntmps22
  go_wp2_with fail
  go_loopw [5] (fun u wr => ∃ i : Nat, i ≤ n ∧ u = .int .i64 (i : Int) ∧ Below w.heap.size w wr) (fun u _ => n - (intOf u).toNat)
  case atStart => exact ⟨0, Nat.zero_le _, rfl, Below.refl _ _⟩
  case round =>
    obtain ⟨i, hi, rfl, hbel⟩ := hrel
    by_cases hlt : i < n
    · obtain ⟨x, hx⟩ : ∃ x, xs[i]? = some x := ⟨_, List.getElem?_eq_getElem (by rw [HN.out]; exact hlt)⟩
      obtain ⟨b, o, rfl, hc⟩ := HP.out i (.string x) (by simp [hx])
      obtain ⟨b2, o2, rfl, hc2⟩ := HQ.out i (.string x) (by simp [hx])
      have hc' := (hbel.cell (p := ⟨b, o + i, none⟩) (World.block_lt_of_cell? w _ hc)).trans hc
      have hc2' := (hbel.cell (p := ⟨b2, o2 + i, none⟩) (World.block_lt_of_cell? w _ hc2)).trans hc2
      clear hc hc2 hx
      go_wp2_with fail
      go_quiet (fail)
      go_wp2_with fail
      go_roundw
      case rel => exact ⟨i + 1, by omega, by go_num, below_drewN hbel _⟩
      case measure => simp [intOf]; omega
    · go_wp2_with fail
      go_ret
      exact ⟨rfl, hbel⟩
end Go.Proofs.YtnphopnhioogdaaDoor
