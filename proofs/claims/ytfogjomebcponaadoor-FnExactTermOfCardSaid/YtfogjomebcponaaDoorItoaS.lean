/- The text of a bit by strconv.Itoa. -/
import Derived.Test.YtfogjomebcponaaDoorImplA
namespace Go.Proofs.YtfogjomebcponaaDoor
open Go.RowKit

/-- The text of a digit. -/
def bitS (k : Nat) : ByteArray := ⟨#[(48 + k).toUInt8]⟩
set_option maxRecDepth 100000 in
set_option maxHeartbeats 1000000 in
theorem small_any (k : Nat) (hk : k < 2) (w : World) : Calls Tryd.prog 65 #[.int .i64 (k : Int)] w fun e w' => e = .returned (.string (bitS k)) ∧ w = w' := by
  have h : k = 0 ∨ k = 1 := by omega
  rcases h with rfl | rfl
  · go_enter Tryd.func65, Tryd.ntmps65
    go_wp2_with fail
    go_ret
    exact ⟨rfl, rfl⟩
  · go_enter Tryd.func65, Tryd.ntmps65
    go_wp2_with fail
    go_ret
    exact ⟨rfl, rfl⟩
set_option maxRecDepth 100000 in
set_option maxHeartbeats 1000000 in
theorem formatInt_bit (k : Nat) (hk : k < 2) (w : World) : Calls Tryd.prog 57 #[.int .i64 (k : Int), .int .i64 10] w fun e w' => e = .returned (.string (bitS k)) ∧ w = w' := by
  have HS := hid (small_any k hk w)
  go_enter Tryd.func57, Tryd.ntmps57
  go_wp2_with (go_at_call 65; refine HS.out.mono ?_; rintro e w1 ⟨rfl, rfl⟩)
  go_ret
  exact ⟨rfl, rfl⟩
set_option maxRecDepth 100000 in
set_option maxHeartbeats 1000000 in
theorem itoa1_bit (k : Nat) (hk : k < 2) (w : World) : Calls Tryd.prog 50 #[.int .i64 (k : Int)] w fun e w' => e = .returned (.string (bitS k)) ∧ w = w' := by
  have HS := hid (formatInt_bit k hk w)
  go_enter Tryd.func50, Tryd.ntmps50
  go_wp2_with (go_at_call 57; refine HS.out.mono ?_; rintro e w1 ⟨rfl, rfl⟩)
  go_ret
  exact ⟨rfl, rfl⟩
set_option maxRecDepth 100000 in
set_option maxHeartbeats 1000000 in
theorem itoa_bit (k : Nat) (hk : k < 2) (w : World) : Calls Tryd.prog 37 #[.int .i64 (k : Int)] w fun e w' => e = .returned (.string (bitS k)) ∧ w = w' := by
  have HS := hid (itoa1_bit k hk w)
  go_enter Tryd.func37, Tryd.ntmps37
  go_wp2_with (go_at_call 50; refine HS.out.mono ?_; rintro e w1 ⟨rfl, rfl⟩)
  go_ret
  exact ⟨rfl, rfl⟩
end Go.Proofs.YtfogjomebcponaaDoor
