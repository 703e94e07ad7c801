/- Types as the program's values; the methods kind, head and kids of each. -/
import Derived.Test.YtodjmbfhkklpaaaDoorValsP
import Derived.Test.YtodjmbfhkklpaaaDoorSpecB
import Derived.Test.YtodjmbfhkklpaaaDoorImplA
import Derived.Test.YtodjmbfhkklpaaaDoorImplB
import Derived.Deep.RegionWith
namespace Go.Proofs.YtodjmbfhkklpaaaDoor
open Go.RowKit

/-- A type. -/
inductive Ty where
  | bit
  | pair (a b : Ty)
  | thunk (c : Ty)
  | ret (a : Ty)
  | fn (a c : Ty)
  | choice (c d : Ty)
/-- A type as the program's value. -/
def Ty.val : Ty → Value
  | .bit => .iface 93 (.agg #[])
  | .pair a b => .iface 98 (.agg #[a.val, b.val])
  | .thunk c => .iface 100 (.agg #[c.val])
  | .ret a => .iface 102 (.agg #[a.val])
  | .fn a c => .iface 104 (.agg #[a.val, c.val])
  | .choice c d => .iface 105 (.agg #[c.val, d.val])
theorem Ty.val_iface (t : Ty) : ∃ u v, t.val = .iface u v := by cases t <;> exact ⟨_, _, rfl⟩
def Ty.isVal : Ty → Bool
  | .bit => true
  | .pair _ _ => true
  | .thunk _ => true
  | _ => false
def Ty.kindS (t : Ty) : ByteArray := if t.isVal then strV else strC
def Ty.headB : Ty → UInt8
  | .bit => 98
  | .pair _ _ => 42
  | .thunk _ => 117
  | .ret _ => 102
  | .fn _ _ => 62
  | .choice _ _ => 38
theorem m_countFrom_bit (w : World) : (method 234 93 (.agg #[]) "loop.example/pushvalue/impl.countFrom").run Tryd.prog w = .ok (96, .agg #[]) w := by kernel_rfl
theorem m_head_bit (w : World) : (method 234 93 (.agg #[]) "loop.example/pushvalue/impl.head").run Tryd.prog w = .ok (97, .agg #[]) w := by kernel_rfl
theorem m_kids_bit (w : World) : (method 234 93 (.agg #[]) "loop.example/pushvalue/impl.kids").run Tryd.prog w = .ok (98, .agg #[]) w := by kernel_rfl
theorem m_kind_bit (w : World) : (method 234 93 (.agg #[]) "loop.example/pushvalue/impl.kind").run Tryd.prog w = .ok (99, .agg #[]) w := by kernel_rfl
theorem m_countFrom_pair (x y : Value) (w : World) : (method 234 98 (.agg #[x, y]) "loop.example/pushvalue/impl.countFrom").run Tryd.prog w = .ok (100, .agg #[x, y]) w := by kernel_rfl
theorem m_head_pair (x y : Value) (w : World) : (method 234 98 (.agg #[x, y]) "loop.example/pushvalue/impl.head").run Tryd.prog w = .ok (101, .agg #[x, y]) w := by kernel_rfl
theorem m_kids_pair (x y : Value) (w : World) : (method 234 98 (.agg #[x, y]) "loop.example/pushvalue/impl.kids").run Tryd.prog w = .ok (102, .agg #[x, y]) w := by kernel_rfl
theorem m_kind_pair (x y : Value) (w : World) : (method 234 98 (.agg #[x, y]) "loop.example/pushvalue/impl.kind").run Tryd.prog w = .ok (103, .agg #[x, y]) w := by kernel_rfl
theorem m_countFrom_thunk (x : Value) (w : World) : (method 234 100 (.agg #[x]) "loop.example/pushvalue/impl.countFrom").run Tryd.prog w = .ok (104, .agg #[x]) w := by kernel_rfl
theorem m_head_thunk (x : Value) (w : World) : (method 234 100 (.agg #[x]) "loop.example/pushvalue/impl.head").run Tryd.prog w = .ok (105, .agg #[x]) w := by kernel_rfl
theorem m_kids_thunk (x : Value) (w : World) : (method 234 100 (.agg #[x]) "loop.example/pushvalue/impl.kids").run Tryd.prog w = .ok (106, .agg #[x]) w := by kernel_rfl
theorem m_kind_thunk (x : Value) (w : World) : (method 234 100 (.agg #[x]) "loop.example/pushvalue/impl.kind").run Tryd.prog w = .ok (107, .agg #[x]) w := by kernel_rfl
theorem m_countFrom_ret (x : Value) (w : World) : (method 234 102 (.agg #[x]) "loop.example/pushvalue/impl.countFrom").run Tryd.prog w = .ok (108, .agg #[x]) w := by kernel_rfl
theorem m_head_ret (x : Value) (w : World) : (method 234 102 (.agg #[x]) "loop.example/pushvalue/impl.head").run Tryd.prog w = .ok (109, .agg #[x]) w := by kernel_rfl
theorem m_kids_ret (x : Value) (w : World) : (method 234 102 (.agg #[x]) "loop.example/pushvalue/impl.kids").run Tryd.prog w = .ok (110, .agg #[x]) w := by kernel_rfl
theorem m_kind_ret (x : Value) (w : World) : (method 234 102 (.agg #[x]) "loop.example/pushvalue/impl.kind").run Tryd.prog w = .ok (111, .agg #[x]) w := by kernel_rfl
theorem m_countFrom_fn (x y : Value) (w : World) : (method 234 104 (.agg #[x, y]) "loop.example/pushvalue/impl.countFrom").run Tryd.prog w = .ok (112, .agg #[x, y]) w := by kernel_rfl
theorem m_head_fn (x y : Value) (w : World) : (method 234 104 (.agg #[x, y]) "loop.example/pushvalue/impl.head").run Tryd.prog w = .ok (113, .agg #[x, y]) w := by kernel_rfl
theorem m_kids_fn (x y : Value) (w : World) : (method 234 104 (.agg #[x, y]) "loop.example/pushvalue/impl.kids").run Tryd.prog w = .ok (114, .agg #[x, y]) w := by kernel_rfl
theorem m_kind_fn (x y : Value) (w : World) : (method 234 104 (.agg #[x, y]) "loop.example/pushvalue/impl.kind").run Tryd.prog w = .ok (115, .agg #[x, y]) w := by kernel_rfl
theorem m_countFrom_choice (x y : Value) (w : World) : (method 234 105 (.agg #[x, y]) "loop.example/pushvalue/impl.countFrom").run Tryd.prog w = .ok (116, .agg #[x, y]) w := by kernel_rfl
theorem m_head_choice (x y : Value) (w : World) : (method 234 105 (.agg #[x, y]) "loop.example/pushvalue/impl.head").run Tryd.prog w = .ok (117, .agg #[x, y]) w := by kernel_rfl
theorem m_kids_choice (x y : Value) (w : World) : (method 234 105 (.agg #[x, y]) "loop.example/pushvalue/impl.kids").run Tryd.prog w = .ok (118, .agg #[x, y]) w := by kernel_rfl
theorem m_kind_choice (x y : Value) (w : World) : (method 234 105 (.agg #[x, y]) "loop.example/pushvalue/impl.kind").run Tryd.prog w = .ok (119, .agg #[x, y]) w := by kernel_rfl
theorem kind_bit (w : World) : Calls Tryd.prog 99 #[.agg #[]] w fun e w' => e = .returned (.string strV) ∧ Below w.heap.size w w' := by
  go_enter Tryd.func99, Tryd.ntmps99
  go_wp2
  go_ret
  exact ⟨rfl, (Below.refl _ _).alloc (by simp) _⟩
theorem kind_pair (x y : Value) (w : World) : Calls Tryd.prog 103 #[.agg #[x, y]] w fun e w' => e = .returned (.string strV) ∧ Below w.heap.size w w' := by
  go_enter Tryd.func103, Tryd.ntmps103
  go_wp2
  go_ret
  exact ⟨rfl, (Below.refl _ _).alloc (by simp) _⟩
theorem kind_thunk (x : Value) (w : World) : Calls Tryd.prog 107 #[.agg #[x]] w fun e w' => e = .returned (.string strV) ∧ Below w.heap.size w w' := by
  go_enter Tryd.func107, Tryd.ntmps107
  go_wp2
  go_ret
  exact ⟨rfl, (Below.refl _ _).alloc (by simp) _⟩
theorem kind_ret (x : Value) (w : World) : Calls Tryd.prog 111 #[.agg #[x]] w fun e w' => e = .returned (.string strC) ∧ Below w.heap.size w w' := by
  go_enter Tryd.func111, Tryd.ntmps111
  go_wp2
  go_ret
  exact ⟨rfl, (Below.refl _ _).alloc (by simp) _⟩
theorem kind_fn (x y : Value) (w : World) : Calls Tryd.prog 115 #[.agg #[x, y]] w fun e w' => e = .returned (.string strC) ∧ Below w.heap.size w w' := by
  go_enter Tryd.func115, Tryd.ntmps115
  go_wp2
  go_ret
  exact ⟨rfl, (Below.refl _ _).alloc (by simp) _⟩
theorem kind_choice (x y : Value) (w : World) : Calls Tryd.prog 119 #[.agg #[x, y]] w fun e w' => e = .returned (.string strC) ∧ Below w.heap.size w w' := by
  go_enter Tryd.func119, Tryd.ntmps119
  go_wp2
  go_ret
  exact ⟨rfl, (Below.refl _ _).alloc (by simp) _⟩
end Go.Proofs.YtodjmbfhkklpaaaDoor
