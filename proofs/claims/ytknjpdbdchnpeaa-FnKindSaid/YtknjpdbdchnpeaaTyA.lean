/- Types as the program's values; the methods kind, head and kids of each. -/
import Derived.Test.YtknjpdbdchnpeaaValsP
import Derived.Test.YtknjpdbdchnpeaaSpecB
import Derived.Test.YtknjpdbdchnpeaaImplA
import Derived.Test.YtknjpdbdchnpeaaImplB
import Derived.Deep.RegionWith
namespace Go.Proofs.Ytknjpdbdchnpeaa
open Go.RowKit

/-- A type. -/
inductive Ty where
  | bit
  | pair (a b : Ty)
  | thunk (c : Ty)
  | ret (a : Ty)
  | fn (a c : Ty)
  | choice (c d : Ty)
/-- A type as the program's value. -/
def Ty.val : Ty → Value
  | .bit => .iface 114 (.agg #[])
  | .pair a b => .iface 129 (.agg #[a.val, b.val])
  | .thunk c => .iface 131 (.agg #[c.val])
  | .ret a => .iface 133 (.agg #[a.val])
  | .fn a c => .iface 135 (.agg #[a.val, c.val])
  | .choice c d => .iface 136 (.agg #[c.val, d.val])
theorem Ty.val_iface (t : Ty) : ∃ u v, t.val = .iface u v := by cases t <;> exact ⟨_, _, rfl⟩
def Ty.isVal : Ty → Bool
  | .bit => true
  | .pair _ _ => true
  | .thunk _ => true
  | _ => false
def Ty.kindS (t : Ty) : ByteArray := if t.isVal then strV else strC
def Ty.headB : Ty → UInt8
  | .bit => 98
  | .pair _ _ => 42
  | .thunk _ => 117
  | .ret _ => 102
  | .fn _ _ => 62
  | .choice _ _ => 38
theorem m_countFrom_bit (w : World) : (method 256 114 (.agg #[]) "loop.example/pushvalue/impl.countFrom").run Try.prog w = .ok (127, .agg #[]) w := by kernel_rfl
theorem m_head_bit (w : World) : (method 256 114 (.agg #[]) "loop.example/pushvalue/impl.head").run Try.prog w = .ok (128, .agg #[]) w := by kernel_rfl
theorem m_kids_bit (w : World) : (method 256 114 (.agg #[]) "loop.example/pushvalue/impl.kids").run Try.prog w = .ok (129, .agg #[]) w := by kernel_rfl
theorem m_kind_bit (w : World) : (method 256 114 (.agg #[]) "loop.example/pushvalue/impl.kind").run Try.prog w = .ok (130, .agg #[]) w := by kernel_rfl
theorem m_countFrom_pair (x y : Value) (w : World) : (method 256 129 (.agg #[x, y]) "loop.example/pushvalue/impl.countFrom").run Try.prog w = .ok (132, .agg #[x, y]) w := by kernel_rfl
theorem m_head_pair (x y : Value) (w : World) : (method 256 129 (.agg #[x, y]) "loop.example/pushvalue/impl.head").run Try.prog w = .ok (133, .agg #[x, y]) w := by kernel_rfl
theorem m_kids_pair (x y : Value) (w : World) : (method 256 129 (.agg #[x, y]) "loop.example/pushvalue/impl.kids").run Try.prog w = .ok (134, .agg #[x, y]) w := by kernel_rfl
theorem m_kind_pair (x y : Value) (w : World) : (method 256 129 (.agg #[x, y]) "loop.example/pushvalue/impl.kind").run Try.prog w = .ok (135, .agg #[x, y]) w := by kernel_rfl
theorem m_countFrom_thunk (x : Value) (w : World) : (method 256 131 (.agg #[x]) "loop.example/pushvalue/impl.countFrom").run Try.prog w = .ok (136, .agg #[x]) w := by kernel_rfl
theorem m_head_thunk (x : Value) (w : World) : (method 256 131 (.agg #[x]) "loop.example/pushvalue/impl.head").run Try.prog w = .ok (137, .agg #[x]) w := by kernel_rfl
theorem m_kids_thunk (x : Value) (w : World) : (method 256 131 (.agg #[x]) "loop.example/pushvalue/impl.kids").run Try.prog w = .ok (138, .agg #[x]) w := by kernel_rfl
theorem m_kind_thunk (x : Value) (w : World) : (method 256 131 (.agg #[x]) "loop.example/pushvalue/impl.kind").run Try.prog w = .ok (139, .agg #[x]) w := by kernel_rfl
theorem m_countFrom_ret (x : Value) (w : World) : (method 256 133 (.agg #[x]) "loop.example/pushvalue/impl.countFrom").run Try.prog w = .ok (140, .agg #[x]) w := by kernel_rfl
theorem m_head_ret (x : Value) (w : World) : (method 256 133 (.agg #[x]) "loop.example/pushvalue/impl.head").run Try.prog w = .ok (141, .agg #[x]) w := by kernel_rfl
theorem m_kids_ret (x : Value) (w : World) : (method 256 133 (.agg #[x]) "loop.example/pushvalue/impl.kids").run Try.prog w = .ok (142, .agg #[x]) w := by kernel_rfl
theorem m_kind_ret (x : Value) (w : World) : (method 256 133 (.agg #[x]) "loop.example/pushvalue/impl.kind").run Try.prog w = .ok (143, .agg #[x]) w := by kernel_rfl
theorem m_countFrom_fn (x y : Value) (w : World) : (method 256 135 (.agg #[x, y]) "loop.example/pushvalue/impl.countFrom").run Try.prog w = .ok (144, .agg #[x, y]) w := by kernel_rfl
theorem m_head_fn (x y : Value) (w : World) : (method 256 135 (.agg #[x, y]) "loop.example/pushvalue/impl.head").run Try.prog w = .ok (145, .agg #[x, y]) w := by kernel_rfl
theorem m_kids_fn (x y : Value) (w : World) : (method 256 135 (.agg #[x, y]) "loop.example/pushvalue/impl.kids").run Try.prog w = .ok (146, .agg #[x, y]) w := by kernel_rfl
theorem m_kind_fn (x y : Value) (w : World) : (method 256 135 (.agg #[x, y]) "loop.example/pushvalue/impl.kind").run Try.prog w = .ok (147, .agg #[x, y]) w := by kernel_rfl
theorem m_countFrom_choice (x y : Value) (w : World) : (method 256 136 (.agg #[x, y]) "loop.example/pushvalue/impl.countFrom").run Try.prog w = .ok (148, .agg #[x, y]) w := by kernel_rfl
theorem m_head_choice (x y : Value) (w : World) : (method 256 136 (.agg #[x, y]) "loop.example/pushvalue/impl.head").run Try.prog w = .ok (149, .agg #[x, y]) w := by kernel_rfl
theorem m_kids_choice (x y : Value) (w : World) : (method 256 136 (.agg #[x, y]) "loop.example/pushvalue/impl.kids").run Try.prog w = .ok (150, .agg #[x, y]) w := by kernel_rfl
theorem m_kind_choice (x y : Value) (w : World) : (method 256 136 (.agg #[x, y]) "loop.example/pushvalue/impl.kind").run Try.prog w = .ok (151, .agg #[x, y]) w := by kernel_rfl
theorem kind_bit (w : World) : Calls Try.prog 130 #[.agg #[]] w fun e w' => e = .returned (.string strV) ∧ Below w.heap.size w w' := by
  go_enter Try.func130, Try.ntmps130
  go_wp2
  go_ret
  exact ⟨rfl, (Below.refl _ _).alloc (by simp) _⟩
theorem kind_pair (x y : Value) (w : World) : Calls Try.prog 135 #[.agg #[x, y]] w fun e w' => e = .returned (.string strV) ∧ Below w.heap.size w w' := by
  go_enter Try.func135, Try.ntmps135
  go_wp2
  go_ret
  exact ⟨rfl, (Below.refl _ _).alloc (by simp) _⟩
theorem kind_thunk (x : Value) (w : World) : Calls Try.prog 139 #[.agg #[x]] w fun e w' => e = .returned (.string strV) ∧ Below w.heap.size w w' := by
  go_enter Try.func139, Try.ntmps139
  go_wp2
  go_ret
  exact ⟨rfl, (Below.refl _ _).alloc (by simp) _⟩
theorem kind_ret (x : Value) (w : World) : Calls Try.prog 143 #[.agg #[x]] w fun e w' => e = .returned (.string strC) ∧ Below w.heap.size w w' := by
  go_enter Try.func143, Try.ntmps143
  go_wp2
  go_ret
  exact ⟨rfl, (Below.refl _ _).alloc (by simp) _⟩
theorem kind_fn (x y : Value) (w : World) : Calls Try.prog 147 #[.agg #[x, y]] w fun e w' => e = .returned (.string strC) ∧ Below w.heap.size w w' := by
  go_enter Try.func147, Try.ntmps147
  go_wp2
  go_ret
  exact ⟨rfl, (Below.refl _ _).alloc (by simp) _⟩
theorem kind_choice (x y : Value) (w : World) : Calls Try.prog 151 #[.agg #[x, y]] w fun e w' => e = .returned (.string strC) ∧ Below w.heap.size w w' := by
  go_enter Try.func151, Try.ntmps151
  go_wp2
  go_ret
  exact ⟨rfl, (Below.refl _ _).alloc (by simp) _⟩
end Go.Proofs.Ytknjpdbdchnpeaa
