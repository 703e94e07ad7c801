/- The term of a bit: the program's bitTerm. -/
import Derived.Test.YtfogjomebcponaaDoorItoaS
import Derived.Test.YtfogjomebcponaaDoorNodeP
namespace Go.Proofs.YtfogjomebcponaaDoor
open Go.RowKit

set_option maxRecDepth 100000 in
set_option maxHeartbeats 1000000 in
/-- THE TERM OF A BIT. -/
theorem bitTerm_any (k : Nat) (hk : k < 2) (w : World) : Calls Tryd.prog 24 #[.int .i64 (k : Int)] w fun e w' => ∃ b : Nat, e = .returned (.pointer (some ⟨b, 0, none⟩)) ∧ NIn w' (fun x => w.heap.size ≤ x) (.mk strBit (bitS k) (-1) [] none []) b ∧ Below w.heap.size w w' := by
  have HS := hid (fun W => itoa_bit k hk W)
  go_enter Tryd.func24, Tryd.ntmps24
  go_wp2_with (go_at_call 37; refine (HS.out _).mono ?_; rintro e w1 ⟨rfl, rfl⟩)
  go_ret
  exact ⟨w.heap.size, rfl, leaf_in (heap_new _ _ _ rfl) (Nat.le_refl _), (Below.refl _ _).alloc (Nat.le_refl _) _⟩
end Go.Proofs.YtfogjomebcponaaDoor
