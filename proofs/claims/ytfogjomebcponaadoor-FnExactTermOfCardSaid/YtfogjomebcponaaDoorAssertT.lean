/- What a type assertion tells of a type, as the program asks it. -/
import Derived.Test.YtfogjomebcponaaDoorTyA
namespace Go.Proofs.YtfogjomebcponaaDoor
open Go.RowKit

theorem as_bit_bit (v : Value) (w : World) : (Instr.typeAssert (.iface 90 v) 32 90 true).run Tryd.prog w = .ok (.tuple #[v, .bool true]) w := by kernel_rfl
theorem as_bit_pair (v : Value) (w : World) : (Instr.typeAssert (.iface 90 v) 32 50 true).run Tryd.prog w = .ok (.tuple #[.agg #[.nilIface, .nilIface], .bool false]) w := by kernel_rfl
theorem as_bit_thunk (v : Value) (w : World) : (Instr.typeAssert (.iface 90 v) 32 56 true).run Tryd.prog w = .ok (.tuple #[.agg #[.nilIface], .bool false]) w := by kernel_rfl
theorem as_bit_ret (v : Value) (w : World) : (Instr.typeAssert (.iface 90 v) 32 58 true).run Tryd.prog w = .ok (.tuple #[.agg #[.nilIface], .bool false]) w := by kernel_rfl
theorem as_bit_fn (v : Value) (w : World) : (Instr.typeAssert (.iface 90 v) 32 60 true).run Tryd.prog w = .ok (.tuple #[.agg #[.nilIface, .nilIface], .bool false]) w := by kernel_rfl
theorem as_bit_choice (v : Value) (w : World) : (Instr.typeAssert (.iface 90 v) 32 61 true).run Tryd.prog w = .ok (.tuple #[.agg #[.nilIface, .nilIface], .bool false]) w := by kernel_rfl
theorem as_pair_bit (v : Value) (w : World) : (Instr.typeAssert (.iface 50 v) 32 90 true).run Tryd.prog w = .ok (.tuple #[.agg #[], .bool false]) w := by kernel_rfl
theorem as_pair_pair (v : Value) (w : World) : (Instr.typeAssert (.iface 50 v) 32 50 true).run Tryd.prog w = .ok (.tuple #[v, .bool true]) w := by kernel_rfl
theorem as_pair_thunk (v : Value) (w : World) : (Instr.typeAssert (.iface 50 v) 32 56 true).run Tryd.prog w = .ok (.tuple #[.agg #[.nilIface], .bool false]) w := by kernel_rfl
theorem as_pair_ret (v : Value) (w : World) : (Instr.typeAssert (.iface 50 v) 32 58 true).run Tryd.prog w = .ok (.tuple #[.agg #[.nilIface], .bool false]) w := by kernel_rfl
theorem as_pair_fn (v : Value) (w : World) : (Instr.typeAssert (.iface 50 v) 32 60 true).run Tryd.prog w = .ok (.tuple #[.agg #[.nilIface, .nilIface], .bool false]) w := by kernel_rfl
theorem as_pair_choice (v : Value) (w : World) : (Instr.typeAssert (.iface 50 v) 32 61 true).run Tryd.prog w = .ok (.tuple #[.agg #[.nilIface, .nilIface], .bool false]) w := by kernel_rfl
theorem as_thunk_bit (v : Value) (w : World) : (Instr.typeAssert (.iface 56 v) 32 90 true).run Tryd.prog w = .ok (.tuple #[.agg #[], .bool false]) w := by kernel_rfl
theorem as_thunk_pair (v : Value) (w : World) : (Instr.typeAssert (.iface 56 v) 32 50 true).run Tryd.prog w = .ok (.tuple #[.agg #[.nilIface, .nilIface], .bool false]) w := by kernel_rfl
theorem as_thunk_thunk (v : Value) (w : World) : (Instr.typeAssert (.iface 56 v) 32 56 true).run Tryd.prog w = .ok (.tuple #[v, .bool true]) w := by kernel_rfl
theorem as_thunk_ret (v : Value) (w : World) : (Instr.typeAssert (.iface 56 v) 32 58 true).run Tryd.prog w = .ok (.tuple #[.agg #[.nilIface], .bool false]) w := by kernel_rfl
theorem as_thunk_fn (v : Value) (w : World) : (Instr.typeAssert (.iface 56 v) 32 60 true).run Tryd.prog w = .ok (.tuple #[.agg #[.nilIface, .nilIface], .bool false]) w := by kernel_rfl
theorem as_thunk_choice (v : Value) (w : World) : (Instr.typeAssert (.iface 56 v) 32 61 true).run Tryd.prog w = .ok (.tuple #[.agg #[.nilIface, .nilIface], .bool false]) w := by kernel_rfl
theorem as_ret_bit (v : Value) (w : World) : (Instr.typeAssert (.iface 58 v) 32 90 true).run Tryd.prog w = .ok (.tuple #[.agg #[], .bool false]) w := by kernel_rfl
theorem as_ret_pair (v : Value) (w : World) : (Instr.typeAssert (.iface 58 v) 32 50 true).run Tryd.prog w = .ok (.tuple #[.agg #[.nilIface, .nilIface], .bool false]) w := by kernel_rfl
theorem as_ret_thunk (v : Value) (w : World) : (Instr.typeAssert (.iface 58 v) 32 56 true).run Tryd.prog w = .ok (.tuple #[.agg #[.nilIface], .bool false]) w := by kernel_rfl
theorem as_ret_ret (v : Value) (w : World) : (Instr.typeAssert (.iface 58 v) 32 58 true).run Tryd.prog w = .ok (.tuple #[v, .bool true]) w := by kernel_rfl
theorem as_ret_fn (v : Value) (w : World) : (Instr.typeAssert (.iface 58 v) 32 60 true).run Tryd.prog w = .ok (.tuple #[.agg #[.nilIface, .nilIface], .bool false]) w := by kernel_rfl
theorem as_ret_choice (v : Value) (w : World) : (Instr.typeAssert (.iface 58 v) 32 61 true).run Tryd.prog w = .ok (.tuple #[.agg #[.nilIface, .nilIface], .bool false]) w := by kernel_rfl
theorem as_fn_bit (v : Value) (w : World) : (Instr.typeAssert (.iface 60 v) 32 90 true).run Tryd.prog w = .ok (.tuple #[.agg #[], .bool false]) w := by kernel_rfl
theorem as_fn_pair (v : Value) (w : World) : (Instr.typeAssert (.iface 60 v) 32 50 true).run Tryd.prog w = .ok (.tuple #[.agg #[.nilIface, .nilIface], .bool false]) w := by kernel_rfl
theorem as_fn_thunk (v : Value) (w : World) : (Instr.typeAssert (.iface 60 v) 32 56 true).run Tryd.prog w = .ok (.tuple #[.agg #[.nilIface], .bool false]) w := by kernel_rfl
theorem as_fn_ret (v : Value) (w : World) : (Instr.typeAssert (.iface 60 v) 32 58 true).run Tryd.prog w = .ok (.tuple #[.agg #[.nilIface], .bool false]) w := by kernel_rfl
theorem as_fn_fn (v : Value) (w : World) : (Instr.typeAssert (.iface 60 v) 32 60 true).run Tryd.prog w = .ok (.tuple #[v, .bool true]) w := by kernel_rfl
theorem as_fn_choice (v : Value) (w : World) : (Instr.typeAssert (.iface 60 v) 32 61 true).run Tryd.prog w = .ok (.tuple #[.agg #[.nilIface, .nilIface], .bool false]) w := by kernel_rfl
theorem as_choice_bit (v : Value) (w : World) : (Instr.typeAssert (.iface 61 v) 32 90 true).run Tryd.prog w = .ok (.tuple #[.agg #[], .bool false]) w := by kernel_rfl
theorem as_choice_pair (v : Value) (w : World) : (Instr.typeAssert (.iface 61 v) 32 50 true).run Tryd.prog w = .ok (.tuple #[.agg #[.nilIface, .nilIface], .bool false]) w := by kernel_rfl
theorem as_choice_thunk (v : Value) (w : World) : (Instr.typeAssert (.iface 61 v) 32 56 true).run Tryd.prog w = .ok (.tuple #[.agg #[.nilIface], .bool false]) w := by kernel_rfl
theorem as_choice_ret (v : Value) (w : World) : (Instr.typeAssert (.iface 61 v) 32 58 true).run Tryd.prog w = .ok (.tuple #[.agg #[.nilIface], .bool false]) w := by kernel_rfl
theorem as_choice_fn (v : Value) (w : World) : (Instr.typeAssert (.iface 61 v) 32 60 true).run Tryd.prog w = .ok (.tuple #[.agg #[.nilIface, .nilIface], .bool false]) w := by kernel_rfl
theorem as_choice_choice (v : Value) (w : World) : (Instr.typeAssert (.iface 61 v) 32 61 true).run Tryd.prog w = .ok (.tuple #[v, .bool true]) w := by kernel_rfl
end Go.Proofs.YtfogjomebcponaaDoor
