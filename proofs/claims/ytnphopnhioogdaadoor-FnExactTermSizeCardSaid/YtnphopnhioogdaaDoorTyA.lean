/- Types as the program's values; the methods kind, head and kids of each. -/
import Derived.Test.YtnphopnhioogdaaDoorValsP
import Derived.Test.YtnphopnhioogdaaDoorSpecB
import Derived.Test.YtnphopnhioogdaaDoorImplA
import Derived.Test.YtnphopnhioogdaaDoorImplB
import Derived.Deep.RegionWith
namespace Go.Proofs.YtnphopnhioogdaaDoor
open Go.RowKit

/-- A type. -/
inductive Ty where
  | bit
  | pair (a b : Ty)
  | thunk (c : Ty)
  | ret (a : Ty)
  | fn (a c : Ty)
  | choice (c d : Ty)
/-- A type as the program's value. -/
def Ty.val : Ty → Value
  | .bit => .iface 124 (.agg #[])
  | .pair a b => .iface 134 (.agg #[a.val, b.val])
  | .thunk c => .iface 136 (.agg #[c.val])
  | .ret a => .iface 138 (.agg #[a.val])
  | .fn a c => .iface 140 (.agg #[a.val, c.val])
  | .choice c d => .iface 141 (.agg #[c.val, d.val])
theorem Ty.val_iface (t : Ty) : ∃ u v, t.val = .iface u v := by cases t <;> exact ⟨_, _, rfl⟩
def Ty.isVal : Ty → Bool
  | .bit => true
  | .pair _ _ => true
  | .thunk _ => true
  | _ => false
def Ty.kindS (t : Ty) : ByteArray := if t.isVal then strV else strC
def Ty.headB : Ty → UInt8
  | .bit => 98
  | .pair _ _ => 42
  | .thunk _ => 117
  | .ret _ => 102
  | .fn _ _ => 62
  | .choice _ _ => 38
theorem m_countFrom_bit (w : World) : (method 268 124 (.agg #[]) "loop.example/pushvalue/impl.countFrom").run Tryd.prog w = .ok (135, .agg #[]) w := by kernel_rfl
theorem m_head_bit (w : World) : (method 268 124 (.agg #[]) "loop.example/pushvalue/impl.head").run Tryd.prog w = .ok (136, .agg #[]) w := by kernel_rfl
theorem m_kids_bit (w : World) : (method 268 124 (.agg #[]) "loop.example/pushvalue/impl.kids").run Tryd.prog w = .ok (137, .agg #[]) w := by kernel_rfl
theorem m_kind_bit (w : World) : (method 268 124 (.agg #[]) "loop.example/pushvalue/impl.kind").run Tryd.prog w = .ok (138, .agg #[]) w := by kernel_rfl
theorem m_countFrom_pair (x y : Value) (w : World) : (method 268 134 (.agg #[x, y]) "loop.example/pushvalue/impl.countFrom").run Tryd.prog w = .ok (139, .agg #[x, y]) w := by kernel_rfl
theorem m_head_pair (x y : Value) (w : World) : (method 268 134 (.agg #[x, y]) "loop.example/pushvalue/impl.head").run Tryd.prog w = .ok (140, .agg #[x, y]) w := by kernel_rfl
theorem m_kids_pair (x y : Value) (w : World) : (method 268 134 (.agg #[x, y]) "loop.example/pushvalue/impl.kids").run Tryd.prog w = .ok (141, .agg #[x, y]) w := by kernel_rfl
theorem m_kind_pair (x y : Value) (w : World) : (method 268 134 (.agg #[x, y]) "loop.example/pushvalue/impl.kind").run Tryd.prog w = .ok (142, .agg #[x, y]) w := by kernel_rfl
theorem m_countFrom_thunk (x : Value) (w : World) : (method 268 136 (.agg #[x]) "loop.example/pushvalue/impl.countFrom").run Tryd.prog w = .ok (143, .agg #[x]) w := by kernel_rfl
theorem m_head_thunk (x : Value) (w : World) : (method 268 136 (.agg #[x]) "loop.example/pushvalue/impl.head").run Tryd.prog w = .ok (144, .agg #[x]) w := by kernel_rfl
theorem m_kids_thunk (x : Value) (w : World) : (method 268 136 (.agg #[x]) "loop.example/pushvalue/impl.kids").run Tryd.prog w = .ok (145, .agg #[x]) w := by kernel_rfl
theorem m_kind_thunk (x : Value) (w : World) : (method 268 136 (.agg #[x]) "loop.example/pushvalue/impl.kind").run Tryd.prog w = .ok (146, .agg #[x]) w := by kernel_rfl
theorem m_countFrom_ret (x : Value) (w : World) : (method 268 138 (.agg #[x]) "loop.example/pushvalue/impl.countFrom").run Tryd.prog w = .ok (147, .agg #[x]) w := by kernel_rfl
theorem m_head_ret (x : Value) (w : World) : (method 268 138 (.agg #[x]) "loop.example/pushvalue/impl.head").run Tryd.prog w = .ok (148, .agg #[x]) w := by kernel_rfl
theorem m_kids_ret (x : Value) (w : World) : (method 268 138 (.agg #[x]) "loop.example/pushvalue/impl.kids").run Tryd.prog w = .ok (149, .agg #[x]) w := by kernel_rfl
theorem m_kind_ret (x : Value) (w : World) : (method 268 138 (.agg #[x]) "loop.example/pushvalue/impl.kind").run Tryd.prog w = .ok (150, .agg #[x]) w := by kernel_rfl
theorem m_countFrom_fn (x y : Value) (w : World) : (method 268 140 (.agg #[x, y]) "loop.example/pushvalue/impl.countFrom").run Tryd.prog w = .ok (151, .agg #[x, y]) w := by kernel_rfl
theorem m_head_fn (x y : Value) (w : World) : (method 268 140 (.agg #[x, y]) "loop.example/pushvalue/impl.head").run Tryd.prog w = .ok (152, .agg #[x, y]) w := by kernel_rfl
theorem m_kids_fn (x y : Value) (w : World) : (method 268 140 (.agg #[x, y]) "loop.example/pushvalue/impl.kids").run Tryd.prog w = .ok (153, .agg #[x, y]) w := by kernel_rfl
theorem m_kind_fn (x y : Value) (w : World) : (method 268 140 (.agg #[x, y]) "loop.example/pushvalue/impl.kind").run Tryd.prog w = .ok (154, .agg #[x, y]) w := by kernel_rfl
theorem m_countFrom_choice (x y : Value) (w : World) : (method 268 141 (.agg #[x, y]) "loop.example/pushvalue/impl.countFrom").run Tryd.prog w = .ok (155, .agg #[x, y]) w := by kernel_rfl
theorem m_head_choice (x y : Value) (w : World) : (method 268 141 (.agg #[x, y]) "loop.example/pushvalue/impl.head").run Tryd.prog w = .ok (156, .agg #[x, y]) w := by kernel_rfl
theorem m_kids_choice (x y : Value) (w : World) : (method 268 141 (.agg #[x, y]) "loop.example/pushvalue/impl.kids").run Tryd.prog w = .ok (157, .agg #[x, y]) w := by kernel_rfl
theorem m_kind_choice (x y : Value) (w : World) : (method 268 141 (.agg #[x, y]) "loop.example/pushvalue/impl.kind").run Tryd.prog w = .ok (158, .agg #[x, y]) w := by kernel_rfl
theorem kind_bit (w : World) : Calls Tryd.prog 138 #[.agg #[]] w fun e w' => e = .returned (.string strV) ∧ Below w.heap.size w w' := by
  go_enter Tryd.func138, Tryd.ntmps138
  go_wp2
  go_ret
  exact ⟨rfl, (Below.refl _ _).alloc (by simp) _⟩
theorem kind_pair (x y : Value) (w : World) : Calls Tryd.prog 142 #[.agg #[x, y]] w fun e w' => e = .returned (.string strV) ∧ Below w.heap.size w w' := by
  go_enter Tryd.func142, Tryd.ntmps142
  go_wp2
  go_ret
  exact ⟨rfl, (Below.refl _ _).alloc (by simp) _⟩
theorem kind_thunk (x : Value) (w : World) : Calls Tryd.prog 146 #[.agg #[x]] w fun e w' => e = .returned (.string strV) ∧ Below w.heap.size w w' := by
  go_enter Tryd.func146, Tryd.ntmps146
  go_wp2
  go_ret
  exact ⟨rfl, (Below.refl _ _).alloc (by simp) _⟩
theorem kind_ret (x : Value) (w : World) : Calls Tryd.prog 150 #[.agg #[x]] w fun e w' => e = .returned (.string strC) ∧ Below w.heap.size w w' := by
  go_enter Tryd.func150, Tryd.ntmps150
  go_wp2
  go_ret
  exact ⟨rfl, (Below.refl _ _).alloc (by simp) _⟩
theorem kind_fn (x y : Value) (w : World) : Calls Tryd.prog 154 #[.agg #[x, y]] w fun e w' => e = .returned (.string strC) ∧ Below w.heap.size w w' := by
  go_enter Tryd.func154, Tryd.ntmps154
  go_wp2
  go_ret
  exact ⟨rfl, (Below.refl _ _).alloc (by simp) _⟩
theorem kind_choice (x y : Value) (w : World) : Calls Tryd.prog 158 #[.agg #[x, y]] w fun e w' => e = .returned (.string strC) ∧ Below w.heap.size w w' := by
  go_enter Tryd.func158, Tryd.ntmps158
  go_wp2
  go_ret
  exact ⟨rfl, (Below.refl _ _).alloc (by simp) _⟩
end Go.Proofs.YtnphopnhioogdaaDoor
