/- The text of a bit by strconv.Itoa. -/
import Derived.Test.YtnmbkaemdblhpaaGreatDoorImplA
namespace Go.Proofs.YtnmbkaemdblhpaaGreatDoor
open Go.RowKit

/-- The text of a digit. -/
def bitS (k : Nat) : ByteArray := ⟨#[(48 + k).toUInt8]⟩
set_option maxRecDepth 100000 in
set_option maxHeartbeats 1000000 in
theorem small_any (k : Nat) (hk : k < 2) (w : World) : Calls Tryz.prog 75 #[.int .i64 (k : Int)] w fun e w' => e = .returned (.string (bitS k)) ∧ w = w' := by
  have h : k = 0 ∨ k = 1 := by omega
  rcases h with rfl | rfl
  · go_enter Tryz.func75, Tryz.ntmps75
    go_wp2_with fail
    go_ret
    exact ⟨rfl, rfl⟩
  · go_enter Tryz.func75, Tryz.ntmps75
    go_wp2_with fail
    go_ret
    exact ⟨rfl, rfl⟩
set_option maxRecDepth 100000 in
set_option maxHeartbeats 1000000 in
theorem formatInt_bit (k : Nat) (hk : k < 2) (w : World) : Calls Tryz.prog 65 #[.int .i64 (k : Int), .int .i64 10] w fun e w' => e = .returned (.string (bitS k)) ∧ w = w' := by
  have HS := hid (small_any k hk w)
  go_enter Tryz.func65, Tryz.ntmps65
  go_wp2_with (go_at_call 75; refine HS.out.mono ?_; rintro e w1 ⟨rfl, rfl⟩)
  go_ret
  exact ⟨rfl, rfl⟩
set_option maxRecDepth 100000 in
set_option maxHeartbeats 1000000 in
theorem itoa1_bit (k : Nat) (hk : k < 2) (w : World) : Calls Tryz.prog 49 #[.int .i64 (k : Int)] w fun e w' => e = .returned (.string (bitS k)) ∧ w = w' := by
  have HS := hid (formatInt_bit k hk w)
  go_enter Tryz.func49, Tryz.ntmps49
  go_wp2_with (go_at_call 65; refine HS.out.mono ?_; rintro e w1 ⟨rfl, rfl⟩)
  go_ret
  exact ⟨rfl, rfl⟩
set_option maxRecDepth 100000 in
set_option maxHeartbeats 1000000 in
theorem itoa_bit (k : Nat) (hk : k < 2) (w : World) : Calls Tryz.prog 29 #[.int .i64 (k : Int)] w fun e w' => e = .returned (.string (bitS k)) ∧ w = w' := by
  have HS := hid (itoa1_bit k hk w)
  go_enter Tryz.func29, Tryz.ntmps29
  go_wp2_with (go_at_call 49; refine HS.out.mono ?_; rintro e w1 ⟨rfl, rfl⟩)
  go_ret
  exact ⟨rfl, rfl⟩
end Go.Proofs.YtnmbkaemdblhpaaGreatDoor
