/- Types as the program's values; the methods kind, head and kids of each. -/
import Derived.Test.YtlggbhakkhecmaaValsP
import Derived.Test.YtlggbhakkhecmaaSpecB
import Derived.Test.YtlggbhakkhecmaaImplA
import Derived.Test.YtlggbhakkhecmaaImplB
import Derived.Deep.RegionWith
namespace Go.Proofs.Ytlggbhakkhecmaa
open Go.RowKit

/-- A type. -/
inductive Ty where
  | bit
  | pair (a b : Ty)
  | thunk (c : Ty)
  | ret (a : Ty)
  | fn (a c : Ty)
  | choice (c d : Ty)
/-- A type as the program's value. -/
def Ty.val : Ty → Value
  | .bit => .iface 89 (.agg #[])
  | .pair a b => .iface 98 (.agg #[a.val, b.val])
  | .thunk c => .iface 100 (.agg #[c.val])
  | .ret a => .iface 102 (.agg #[a.val])
  | .fn a c => .iface 104 (.agg #[a.val, c.val])
  | .choice c d => .iface 105 (.agg #[c.val, d.val])
theorem Ty.val_iface (t : Ty) : ∃ u v, t.val = .iface u v := by cases t <;> exact ⟨_, _, rfl⟩
def Ty.isVal : Ty → Bool
  | .bit => true
  | .pair _ _ => true
  | .thunk _ => true
  | _ => false
def Ty.kindS (t : Ty) : ByteArray := if t.isVal then strV else strC
def Ty.headB : Ty → UInt8
  | .bit => 98
  | .pair _ _ => 42
  | .thunk _ => 117
  | .ret _ => 102
  | .fn _ _ => 62
  | .choice _ _ => 38
theorem m_countFrom_bit (w : World) : (method 225 89 (.agg #[]) "loop.example/pushvalue/impl.countFrom").run Try.prog w = .ok (86, .agg #[]) w := by kernel_rfl
theorem m_head_bit (w : World) : (method 225 89 (.agg #[]) "loop.example/pushvalue/impl.head").run Try.prog w = .ok (87, .agg #[]) w := by kernel_rfl
theorem m_kids_bit (w : World) : (method 225 89 (.agg #[]) "loop.example/pushvalue/impl.kids").run Try.prog w = .ok (88, .agg #[]) w := by kernel_rfl
theorem m_kind_bit (w : World) : (method 225 89 (.agg #[]) "loop.example/pushvalue/impl.kind").run Try.prog w = .ok (89, .agg #[]) w := by kernel_rfl
theorem m_countFrom_pair (x y : Value) (w : World) : (method 225 98 (.agg #[x, y]) "loop.example/pushvalue/impl.countFrom").run Try.prog w = .ok (90, .agg #[x, y]) w := by kernel_rfl
theorem m_head_pair (x y : Value) (w : World) : (method 225 98 (.agg #[x, y]) "loop.example/pushvalue/impl.head").run Try.prog w = .ok (91, .agg #[x, y]) w := by kernel_rfl
theorem m_kids_pair (x y : Value) (w : World) : (method 225 98 (.agg #[x, y]) "loop.example/pushvalue/impl.kids").run Try.prog w = .ok (92, .agg #[x, y]) w := by kernel_rfl
theorem m_kind_pair (x y : Value) (w : World) : (method 225 98 (.agg #[x, y]) "loop.example/pushvalue/impl.kind").run Try.prog w = .ok (93, .agg #[x, y]) w := by kernel_rfl
theorem m_countFrom_thunk (x : Value) (w : World) : (method 225 100 (.agg #[x]) "loop.example/pushvalue/impl.countFrom").run Try.prog w = .ok (94, .agg #[x]) w := by kernel_rfl
theorem m_head_thunk (x : Value) (w : World) : (method 225 100 (.agg #[x]) "loop.example/pushvalue/impl.head").run Try.prog w = .ok (95, .agg #[x]) w := by kernel_rfl
theorem m_kids_thunk (x : Value) (w : World) : (method 225 100 (.agg #[x]) "loop.example/pushvalue/impl.kids").run Try.prog w = .ok (96, .agg #[x]) w := by kernel_rfl
theorem m_kind_thunk (x : Value) (w : World) : (method 225 100 (.agg #[x]) "loop.example/pushvalue/impl.kind").run Try.prog w = .ok (97, .agg #[x]) w := by kernel_rfl
theorem m_countFrom_ret (x : Value) (w : World) : (method 225 102 (.agg #[x]) "loop.example/pushvalue/impl.countFrom").run Try.prog w = .ok (98, .agg #[x]) w := by kernel_rfl
theorem m_head_ret (x : Value) (w : World) : (method 225 102 (.agg #[x]) "loop.example/pushvalue/impl.head").run Try.prog w = .ok (99, .agg #[x]) w := by kernel_rfl
theorem m_kids_ret (x : Value) (w : World) : (method 225 102 (.agg #[x]) "loop.example/pushvalue/impl.kids").run Try.prog w = .ok (100, .agg #[x]) w := by kernel_rfl
theorem m_kind_ret (x : Value) (w : World) : (method 225 102 (.agg #[x]) "loop.example/pushvalue/impl.kind").run Try.prog w = .ok (101, .agg #[x]) w := by kernel_rfl
theorem m_countFrom_fn (x y : Value) (w : World) : (method 225 104 (.agg #[x, y]) "loop.example/pushvalue/impl.countFrom").run Try.prog w = .ok (102, .agg #[x, y]) w := by kernel_rfl
theorem m_head_fn (x y : Value) (w : World) : (method 225 104 (.agg #[x, y]) "loop.example/pushvalue/impl.head").run Try.prog w = .ok (103, .agg #[x, y]) w := by kernel_rfl
theorem m_kids_fn (x y : Value) (w : World) : (method 225 104 (.agg #[x, y]) "loop.example/pushvalue/impl.kids").run Try.prog w = .ok (104, .agg #[x, y]) w := by kernel_rfl
theorem m_kind_fn (x y : Value) (w : World) : (method 225 104 (.agg #[x, y]) "loop.example/pushvalue/impl.kind").run Try.prog w = .ok (105, .agg #[x, y]) w := by kernel_rfl
theorem m_countFrom_choice (x y : Value) (w : World) : (method 225 105 (.agg #[x, y]) "loop.example/pushvalue/impl.countFrom").run Try.prog w = .ok (106, .agg #[x, y]) w := by kernel_rfl
theorem m_head_choice (x y : Value) (w : World) : (method 225 105 (.agg #[x, y]) "loop.example/pushvalue/impl.head").run Try.prog w = .ok (107, .agg #[x, y]) w := by kernel_rfl
theorem m_kids_choice (x y : Value) (w : World) : (method 225 105 (.agg #[x, y]) "loop.example/pushvalue/impl.kids").run Try.prog w = .ok (108, .agg #[x, y]) w := by kernel_rfl
theorem m_kind_choice (x y : Value) (w : World) : (method 225 105 (.agg #[x, y]) "loop.example/pushvalue/impl.kind").run Try.prog w = .ok (109, .agg #[x, y]) w := by kernel_rfl
theorem kind_bit (w : World) : Calls Try.prog 89 #[.agg #[]] w fun e w' => e = .returned (.string strV) ∧ Below w.heap.size w w' := by
  go_enter Try.func89, Try.ntmps89
  go_wp2
  go_ret
  exact ⟨rfl, (Below.refl _ _).alloc (by simp) _⟩
theorem kind_pair (x y : Value) (w : World) : Calls Try.prog 93 #[.agg #[x, y]] w fun e w' => e = .returned (.string strV) ∧ Below w.heap.size w w' := by
  go_enter Try.func93, Try.ntmps93
  go_wp2
  go_ret
  exact ⟨rfl, (Below.refl _ _).alloc (by simp) _⟩
theorem kind_thunk (x : Value) (w : World) : Calls Try.prog 97 #[.agg #[x]] w fun e w' => e = .returned (.string strV) ∧ Below w.heap.size w w' := by
  go_enter Try.func97, Try.ntmps97
  go_wp2
  go_ret
  exact ⟨rfl, (Below.refl _ _).alloc (by simp) _⟩
theorem kind_ret (x : Value) (w : World) : Calls Try.prog 101 #[.agg #[x]] w fun e w' => e = .returned (.string strC) ∧ Below w.heap.size w w' := by
  go_enter Try.func101, Try.ntmps101
  go_wp2
  go_ret
  exact ⟨rfl, (Below.refl _ _).alloc (by simp) _⟩
theorem kind_fn (x y : Value) (w : World) : Calls Try.prog 105 #[.agg #[x, y]] w fun e w' => e = .returned (.string strC) ∧ Below w.heap.size w w' := by
  go_enter Try.func105, Try.ntmps105
  go_wp2
  go_ret
  exact ⟨rfl, (Below.refl _ _).alloc (by simp) _⟩
theorem kind_choice (x y : Value) (w : World) : Calls Try.prog 109 #[.agg #[x, y]] w fun e w' => e = .returned (.string strC) ∧ Below w.heap.size w w' := by
  go_enter Try.func109, Try.ntmps109
  go_wp2
  go_ret
  exact ⟨rfl, (Below.refl _ _).alloc (by simp) _⟩
end Go.Proofs.Ytlggbhakkhecmaa
