/- Types as the program's values; the methods kind, head and kids of each. -/
import Derived.Test.YtojplcjfnoogaaaValsP
import Derived.Test.YtojplcjfnoogaaaSpecB
import Derived.Test.YtojplcjfnoogaaaImplA
import Derived.Test.YtojplcjfnoogaaaImplB
import Derived.Deep.RegionWith
namespace Go.Proofs.Ytojplcjfnoogaaa
open Go.RowKit

/-- A type. -/
inductive Ty where
  | bit
  | pair (a b : Ty)
  | thunk (c : Ty)
  | ret (a : Ty)
  | fn (a c : Ty)
  | choice (c d : Ty)
/-- A type as the program's value. -/
def Ty.val : Ty → Value
  | .bit => .iface 71 (.agg #[])
  | .pair a b => .iface 76 (.agg #[a.val, b.val])
  | .thunk c => .iface 78 (.agg #[c.val])
  | .ret a => .iface 80 (.agg #[a.val])
  | .fn a c => .iface 82 (.agg #[a.val, c.val])
  | .choice c d => .iface 83 (.agg #[c.val, d.val])
theorem Ty.val_iface (t : Ty) : ∃ u v, t.val = .iface u v := by cases t <;> exact ⟨_, _, rfl⟩
def Ty.isVal : Ty → Bool
  | .bit => true
  | .pair _ _ => true
  | .thunk _ => true
  | _ => false
def Ty.kindS (t : Ty) : ByteArray := if t.isVal then strV else strC
def Ty.headB : Ty → UInt8
  | .bit => 98
  | .pair _ _ => 42
  | .thunk _ => 117
  | .ret _ => 102
  | .fn _ _ => 62
  | .choice _ _ => 38
theorem m_countFrom_bit (w : World) : (method 203 71 (.agg #[]) "loop.example/pushvalue/impl.countFrom").run Try.prog w = .ok (58, .agg #[]) w := by kernel_rfl
theorem m_head_bit (w : World) : (method 203 71 (.agg #[]) "loop.example/pushvalue/impl.head").run Try.prog w = .ok (59, .agg #[]) w := by kernel_rfl
theorem m_kids_bit (w : World) : (method 203 71 (.agg #[]) "loop.example/pushvalue/impl.kids").run Try.prog w = .ok (60, .agg #[]) w := by kernel_rfl
theorem m_kind_bit (w : World) : (method 203 71 (.agg #[]) "loop.example/pushvalue/impl.kind").run Try.prog w = .ok (61, .agg #[]) w := by kernel_rfl
theorem m_countFrom_pair (x y : Value) (w : World) : (method 203 76 (.agg #[x, y]) "loop.example/pushvalue/impl.countFrom").run Try.prog w = .ok (62, .agg #[x, y]) w := by kernel_rfl
theorem m_head_pair (x y : Value) (w : World) : (method 203 76 (.agg #[x, y]) "loop.example/pushvalue/impl.head").run Try.prog w = .ok (63, .agg #[x, y]) w := by kernel_rfl
theorem m_kids_pair (x y : Value) (w : World) : (method 203 76 (.agg #[x, y]) "loop.example/pushvalue/impl.kids").run Try.prog w = .ok (64, .agg #[x, y]) w := by kernel_rfl
theorem m_kind_pair (x y : Value) (w : World) : (method 203 76 (.agg #[x, y]) "loop.example/pushvalue/impl.kind").run Try.prog w = .ok (65, .agg #[x, y]) w := by kernel_rfl
theorem m_countFrom_thunk (x : Value) (w : World) : (method 203 78 (.agg #[x]) "loop.example/pushvalue/impl.countFrom").run Try.prog w = .ok (66, .agg #[x]) w := by kernel_rfl
theorem m_head_thunk (x : Value) (w : World) : (method 203 78 (.agg #[x]) "loop.example/pushvalue/impl.head").run Try.prog w = .ok (67, .agg #[x]) w := by kernel_rfl
theorem m_kids_thunk (x : Value) (w : World) : (method 203 78 (.agg #[x]) "loop.example/pushvalue/impl.kids").run Try.prog w = .ok (68, .agg #[x]) w := by kernel_rfl
theorem m_kind_thunk (x : Value) (w : World) : (method 203 78 (.agg #[x]) "loop.example/pushvalue/impl.kind").run Try.prog w = .ok (69, .agg #[x]) w := by kernel_rfl
theorem m_countFrom_ret (x : Value) (w : World) : (method 203 80 (.agg #[x]) "loop.example/pushvalue/impl.countFrom").run Try.prog w = .ok (70, .agg #[x]) w := by kernel_rfl
theorem m_head_ret (x : Value) (w : World) : (method 203 80 (.agg #[x]) "loop.example/pushvalue/impl.head").run Try.prog w = .ok (71, .agg #[x]) w := by kernel_rfl
theorem m_kids_ret (x : Value) (w : World) : (method 203 80 (.agg #[x]) "loop.example/pushvalue/impl.kids").run Try.prog w = .ok (72, .agg #[x]) w := by kernel_rfl
theorem m_kind_ret (x : Value) (w : World) : (method 203 80 (.agg #[x]) "loop.example/pushvalue/impl.kind").run Try.prog w = .ok (73, .agg #[x]) w := by kernel_rfl
theorem m_countFrom_fn (x y : Value) (w : World) : (method 203 82 (.agg #[x, y]) "loop.example/pushvalue/impl.countFrom").run Try.prog w = .ok (74, .agg #[x, y]) w := by kernel_rfl
theorem m_head_fn (x y : Value) (w : World) : (method 203 82 (.agg #[x, y]) "loop.example/pushvalue/impl.head").run Try.prog w = .ok (75, .agg #[x, y]) w := by kernel_rfl
theorem m_kids_fn (x y : Value) (w : World) : (method 203 82 (.agg #[x, y]) "loop.example/pushvalue/impl.kids").run Try.prog w = .ok (76, .agg #[x, y]) w := by kernel_rfl
theorem m_kind_fn (x y : Value) (w : World) : (method 203 82 (.agg #[x, y]) "loop.example/pushvalue/impl.kind").run Try.prog w = .ok (77, .agg #[x, y]) w := by kernel_rfl
theorem m_countFrom_choice (x y : Value) (w : World) : (method 203 83 (.agg #[x, y]) "loop.example/pushvalue/impl.countFrom").run Try.prog w = .ok (78, .agg #[x, y]) w := by kernel_rfl
theorem m_head_choice (x y : Value) (w : World) : (method 203 83 (.agg #[x, y]) "loop.example/pushvalue/impl.head").run Try.prog w = .ok (79, .agg #[x, y]) w := by kernel_rfl
theorem m_kids_choice (x y : Value) (w : World) : (method 203 83 (.agg #[x, y]) "loop.example/pushvalue/impl.kids").run Try.prog w = .ok (80, .agg #[x, y]) w := by kernel_rfl
theorem m_kind_choice (x y : Value) (w : World) : (method 203 83 (.agg #[x, y]) "loop.example/pushvalue/impl.kind").run Try.prog w = .ok (81, .agg #[x, y]) w := by kernel_rfl
theorem kind_bit (w : World) : Calls Try.prog 61 #[.agg #[]] w fun e w' => e = .returned (.string strV) ∧ Below w.heap.size w w' := by
  go_enter Try.func61, Try.ntmps61
  go_wp2
  go_ret
  exact ⟨rfl, (Below.refl _ _).alloc (by simp) _⟩
theorem kind_pair (x y : Value) (w : World) : Calls Try.prog 65 #[.agg #[x, y]] w fun e w' => e = .returned (.string strV) ∧ Below w.heap.size w w' := by
  go_enter Try.func65, Try.ntmps65
  go_wp2
  go_ret
  exact ⟨rfl, (Below.refl _ _).alloc (by simp) _⟩
theorem kind_thunk (x : Value) (w : World) : Calls Try.prog 69 #[.agg #[x]] w fun e w' => e = .returned (.string strV) ∧ Below w.heap.size w w' := by
  go_enter Try.func69, Try.ntmps69
  go_wp2
  go_ret
  exact ⟨rfl, (Below.refl _ _).alloc (by simp) _⟩
theorem kind_ret (x : Value) (w : World) : Calls Try.prog 73 #[.agg #[x]] w fun e w' => e = .returned (.string strC) ∧ Below w.heap.size w w' := by
  go_enter Try.func73, Try.ntmps73
  go_wp2
  go_ret
  exact ⟨rfl, (Below.refl _ _).alloc (by simp) _⟩
theorem kind_fn (x y : Value) (w : World) : Calls Try.prog 77 #[.agg #[x, y]] w fun e w' => e = .returned (.string strC) ∧ Below w.heap.size w w' := by
  go_enter Try.func77, Try.ntmps77
  go_wp2
  go_ret
  exact ⟨rfl, (Below.refl _ _).alloc (by simp) _⟩
theorem kind_choice (x y : Value) (w : World) : Calls Try.prog 81 #[.agg #[x, y]] w fun e w' => e = .returned (.string strC) ∧ Below w.heap.size w w' := by
  go_enter Try.func81, Try.ntmps81
  go_wp2
  go_ret
  exact ⟨rfl, (Below.refl _ _).alloc (by simp) _⟩
end Go.Proofs.Ytojplcjfnoogaaa
