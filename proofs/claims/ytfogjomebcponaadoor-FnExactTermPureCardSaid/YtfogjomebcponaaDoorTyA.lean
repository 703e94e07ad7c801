/- Types as the program's values; the methods kind, head and kids of each. -/
import Derived.Test.YtfogjomebcponaaDoorValsP
import Derived.Test.YtfogjomebcponaaDoorSpecB
import Derived.Test.YtfogjomebcponaaDoorImplA
import Derived.Test.YtfogjomebcponaaDoorImplB
import Derived.Deep.RegionWith
namespace Go.Proofs.YtfogjomebcponaaDoor
open Go.RowKit

/-- A type. -/
inductive Ty where
  | bit
  | pair (a b : Ty)
  | thunk (c : Ty)
  | ret (a : Ty)
  | fn (a c : Ty)
  | choice (c d : Ty)
/-- A type as the program's value. -/
def Ty.val : Ty → Value
  | .bit => .iface 90 (.agg #[])
  | .pair a b => .iface 50 (.agg #[a.val, b.val])
  | .thunk c => .iface 56 (.agg #[c.val])
  | .ret a => .iface 58 (.agg #[a.val])
  | .fn a c => .iface 60 (.agg #[a.val, c.val])
  | .choice c d => .iface 61 (.agg #[c.val, d.val])
theorem Ty.val_iface (t : Ty) : ∃ u v, t.val = .iface u v := by cases t <;> exact ⟨_, _, rfl⟩
def Ty.isVal : Ty → Bool
  | .bit => true
  | .pair _ _ => true
  | .thunk _ => true
  | _ => false
def Ty.kindS (t : Ty) : ByteArray := if t.isVal then strV else strC
def Ty.headB : Ty → UInt8
  | .bit => 98
  | .pair _ _ => 42
  | .thunk _ => 117
  | .ret _ => 102
  | .fn _ _ => 62
  | .choice _ _ => 38
theorem m_countFrom_bit (w : World) : (method 260 90 (.agg #[]) "loop.example/pushvalue/impl.countFrom").run Tryd.prog w = .ok (136, .agg #[]) w := by kernel_rfl
theorem m_head_bit (w : World) : (method 260 90 (.agg #[]) "loop.example/pushvalue/impl.head").run Tryd.prog w = .ok (137, .agg #[]) w := by kernel_rfl
theorem m_kids_bit (w : World) : (method 260 90 (.agg #[]) "loop.example/pushvalue/impl.kids").run Tryd.prog w = .ok (138, .agg #[]) w := by kernel_rfl
theorem m_kind_bit (w : World) : (method 260 90 (.agg #[]) "loop.example/pushvalue/impl.kind").run Tryd.prog w = .ok (139, .agg #[]) w := by kernel_rfl
theorem m_countFrom_pair (x y : Value) (w : World) : (method 260 50 (.agg #[x, y]) "loop.example/pushvalue/impl.countFrom").run Tryd.prog w = .ok (115, .agg #[x, y]) w := by kernel_rfl
theorem m_head_pair (x y : Value) (w : World) : (method 260 50 (.agg #[x, y]) "loop.example/pushvalue/impl.head").run Tryd.prog w = .ok (116, .agg #[x, y]) w := by kernel_rfl
theorem m_kids_pair (x y : Value) (w : World) : (method 260 50 (.agg #[x, y]) "loop.example/pushvalue/impl.kids").run Tryd.prog w = .ok (117, .agg #[x, y]) w := by kernel_rfl
theorem m_kind_pair (x y : Value) (w : World) : (method 260 50 (.agg #[x, y]) "loop.example/pushvalue/impl.kind").run Tryd.prog w = .ok (118, .agg #[x, y]) w := by kernel_rfl
theorem m_countFrom_thunk (x : Value) (w : World) : (method 260 56 (.agg #[x]) "loop.example/pushvalue/impl.countFrom").run Tryd.prog w = .ok (119, .agg #[x]) w := by kernel_rfl
theorem m_head_thunk (x : Value) (w : World) : (method 260 56 (.agg #[x]) "loop.example/pushvalue/impl.head").run Tryd.prog w = .ok (120, .agg #[x]) w := by kernel_rfl
theorem m_kids_thunk (x : Value) (w : World) : (method 260 56 (.agg #[x]) "loop.example/pushvalue/impl.kids").run Tryd.prog w = .ok (121, .agg #[x]) w := by kernel_rfl
theorem m_kind_thunk (x : Value) (w : World) : (method 260 56 (.agg #[x]) "loop.example/pushvalue/impl.kind").run Tryd.prog w = .ok (122, .agg #[x]) w := by kernel_rfl
theorem m_countFrom_ret (x : Value) (w : World) : (method 260 58 (.agg #[x]) "loop.example/pushvalue/impl.countFrom").run Tryd.prog w = .ok (123, .agg #[x]) w := by kernel_rfl
theorem m_head_ret (x : Value) (w : World) : (method 260 58 (.agg #[x]) "loop.example/pushvalue/impl.head").run Tryd.prog w = .ok (124, .agg #[x]) w := by kernel_rfl
theorem m_kids_ret (x : Value) (w : World) : (method 260 58 (.agg #[x]) "loop.example/pushvalue/impl.kids").run Tryd.prog w = .ok (125, .agg #[x]) w := by kernel_rfl
theorem m_kind_ret (x : Value) (w : World) : (method 260 58 (.agg #[x]) "loop.example/pushvalue/impl.kind").run Tryd.prog w = .ok (126, .agg #[x]) w := by kernel_rfl
theorem m_countFrom_fn (x y : Value) (w : World) : (method 260 60 (.agg #[x, y]) "loop.example/pushvalue/impl.countFrom").run Tryd.prog w = .ok (127, .agg #[x, y]) w := by kernel_rfl
theorem m_head_fn (x y : Value) (w : World) : (method 260 60 (.agg #[x, y]) "loop.example/pushvalue/impl.head").run Tryd.prog w = .ok (128, .agg #[x, y]) w := by kernel_rfl
theorem m_kids_fn (x y : Value) (w : World) : (method 260 60 (.agg #[x, y]) "loop.example/pushvalue/impl.kids").run Tryd.prog w = .ok (129, .agg #[x, y]) w := by kernel_rfl
theorem m_kind_fn (x y : Value) (w : World) : (method 260 60 (.agg #[x, y]) "loop.example/pushvalue/impl.kind").run Tryd.prog w = .ok (130, .agg #[x, y]) w := by kernel_rfl
theorem m_countFrom_choice (x y : Value) (w : World) : (method 260 61 (.agg #[x, y]) "loop.example/pushvalue/impl.countFrom").run Tryd.prog w = .ok (131, .agg #[x, y]) w := by kernel_rfl
theorem m_head_choice (x y : Value) (w : World) : (method 260 61 (.agg #[x, y]) "loop.example/pushvalue/impl.head").run Tryd.prog w = .ok (132, .agg #[x, y]) w := by kernel_rfl
theorem m_kids_choice (x y : Value) (w : World) : (method 260 61 (.agg #[x, y]) "loop.example/pushvalue/impl.kids").run Tryd.prog w = .ok (133, .agg #[x, y]) w := by kernel_rfl
theorem m_kind_choice (x y : Value) (w : World) : (method 260 61 (.agg #[x, y]) "loop.example/pushvalue/impl.kind").run Tryd.prog w = .ok (134, .agg #[x, y]) w := by kernel_rfl
theorem kind_bit (w : World) : Calls Tryd.prog 139 #[.agg #[]] w fun e w' => e = .returned (.string strV) ∧ Below w.heap.size w w' := by
  go_enter Tryd.func139, Tryd.ntmps139
  go_wp2
  go_ret
  exact ⟨rfl, (Below.refl _ _).alloc (by simp) _⟩
theorem kind_pair (x y : Value) (w : World) : Calls Tryd.prog 118 #[.agg #[x, y]] w fun e w' => e = .returned (.string strV) ∧ Below w.heap.size w w' := by
  go_enter Tryd.func118, Tryd.ntmps118
  go_wp2
  go_ret
  exact ⟨rfl, (Below.refl _ _).alloc (by simp) _⟩
theorem kind_thunk (x : Value) (w : World) : Calls Tryd.prog 122 #[.agg #[x]] w fun e w' => e = .returned (.string strV) ∧ Below w.heap.size w w' := by
  go_enter Tryd.func122, Tryd.ntmps122
  go_wp2
  go_ret
  exact ⟨rfl, (Below.refl _ _).alloc (by simp) _⟩
theorem kind_ret (x : Value) (w : World) : Calls Tryd.prog 126 #[.agg #[x]] w fun e w' => e = .returned (.string strC) ∧ Below w.heap.size w w' := by
  go_enter Tryd.func126, Tryd.ntmps126
  go_wp2
  go_ret
  exact ⟨rfl, (Below.refl _ _).alloc (by simp) _⟩
theorem kind_fn (x y : Value) (w : World) : Calls Tryd.prog 130 #[.agg #[x, y]] w fun e w' => e = .returned (.string strC) ∧ Below w.heap.size w w' := by
  go_enter Tryd.func130, Tryd.ntmps130
  go_wp2
  go_ret
  exact ⟨rfl, (Below.refl _ _).alloc (by simp) _⟩
theorem kind_choice (x y : Value) (w : World) : Calls Tryd.prog 134 #[.agg #[x, y]] w fun e w' => e = .returned (.string strC) ∧ Below w.heap.size w w' := by
  go_enter Tryd.func134, Tryd.ntmps134
  go_wp2
  go_ret
  exact ⟨rfl, (Below.refl _ _).alloc (by simp) _⟩
end Go.Proofs.YtfogjomebcponaaDoor
