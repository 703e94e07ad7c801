/- Types as the program's values; the methods kind, head and kids of each. -/
import Derived.Test.YtinlibkkbjfmeaaSpecB
import Derived.Test.YtinlibkkbjfmeaaImplA
import Derived.Test.YtinlibkkbjfmeaaImplB
import Derived.Deep.RegionWith
namespace Go.Proofs.Ytinlibkkbjfmeaa
open Go.RowKit

/-- A type. -/
inductive Ty where
  | bit
  | pair (a b : Ty)
  | thunk (c : Ty)
  | ret (a : Ty)
  | fn (a c : Ty)
  | choice (c d : Ty)
/-- A type as the program's value. -/
def Ty.val : Ty → Value
  | .bit => .iface 71 (.agg #[])
  | .pair a b => .iface 76 (.agg #[a.val, b.val])
  | .thunk c => .iface 78 (.agg #[c.val])
  | .ret a => .iface 80 (.agg #[a.val])
  | .fn a c => .iface 82 (.agg #[a.val, c.val])
  | .choice c d => .iface 83 (.agg #[c.val, d.val])
theorem Ty.val_iface (t : Ty) : ∃ u v, t.val = .iface u v := by cases t <;> exact ⟨_, _, rfl⟩
def Ty.isVal : Ty → Bool
  | .bit => true
  | .pair _ _ => true
  | .thunk _ => true
  | _ => false
def Ty.kindS (t : Ty) : ByteArray := if t.isVal then strV else strC
def Ty.headB : Ty → UInt8
  | .bit => 98
  | .pair _ _ => 42
  | .thunk _ => 117
  | .ret _ => 102
  | .fn _ _ => 62
  | .choice _ _ => 38
/-- A slice of one-cell values. -/
def Vals (w : World) (p : Option Addr) (l : List Value) : Prop := ∀ i v, l[i]? = some v → ∃ b o, p = some ⟨b, o, none⟩ ∧ w.cell? ⟨b, o + i, none⟩ = some v
theorem Vals.kept {w w' : World} {p : Option Addr} {l : List Value} (h : Vals w p l) (hk : Kept w w') : Vals w' p l := fun i v hv =>
  let ⟨b, o, hp, hc⟩ := h i v hv
  ⟨b, o, hp, hk.cell hc⟩
theorem vals_own {w : World} {base : Nat} {e : TypeId} {g n cap : Nat} {l : List Value} (h : w.ownsRow base e 1 (.slice (some ⟨g, 0, none⟩) n cap) n l) : Vals w (some ⟨g, 0, none⟩) l := by
  intro i v hv
  have hc := h.cells (g := g) rfl i v hv
  refine ⟨g, 0, rfl, ?_⟩
  have hadd : (⟨g, 0, none⟩ : Addr).add i = ⟨g, 0 + i, none⟩ := by unfold Addr.add; split <;> simp_all
  rw [← hadd]; exact hc
theorem vals_one {w : World} {b : Nat} {x : Value} {t : TypeId} (h : w.heap[b]? = some (.cells #[x] t (0, 0))) : Vals w (some ⟨b, 0, none⟩) [x] := by
  intro i v hv
  match i, hv with
  | 0, hv => simp at hv; subst hv; exact ⟨b, 0, rfl, cell_of_one h⟩
theorem vals_two {w : World} {b : Nat} {x y : Value} {t : TypeId} (h : w.heap[b]? = some (.cells #[x, y] t (0, 0))) : Vals w (some ⟨b, 0, none⟩) [x, y] := by
  intro i v hv
  match i, hv with
  | 0, hv => simp at hv; subst hv; exact ⟨b, 0, rfl, (cells_of_pair h).1⟩
  | 1, hv => simp at hv; subst hv; exact ⟨b, 0, rfl, (cells_of_pair h).2.1⟩
theorem m_countFrom_bit (w : World) : (method 203 71 (.agg #[]) "loop.example/pushvalue/impl.countFrom").run Try.prog w = .ok (64, .agg #[]) w := by kernel_rfl
theorem m_head_bit (w : World) : (method 203 71 (.agg #[]) "loop.example/pushvalue/impl.head").run Try.prog w = .ok (65, .agg #[]) w := by kernel_rfl
theorem m_kids_bit (w : World) : (method 203 71 (.agg #[]) "loop.example/pushvalue/impl.kids").run Try.prog w = .ok (66, .agg #[]) w := by kernel_rfl
theorem m_kind_bit (w : World) : (method 203 71 (.agg #[]) "loop.example/pushvalue/impl.kind").run Try.prog w = .ok (67, .agg #[]) w := by kernel_rfl
theorem m_countFrom_pair (x y : Value) (w : World) : (method 203 76 (.agg #[x, y]) "loop.example/pushvalue/impl.countFrom").run Try.prog w = .ok (68, .agg #[x, y]) w := by kernel_rfl
theorem m_head_pair (x y : Value) (w : World) : (method 203 76 (.agg #[x, y]) "loop.example/pushvalue/impl.head").run Try.prog w = .ok (69, .agg #[x, y]) w := by kernel_rfl
theorem m_kids_pair (x y : Value) (w : World) : (method 203 76 (.agg #[x, y]) "loop.example/pushvalue/impl.kids").run Try.prog w = .ok (70, .agg #[x, y]) w := by kernel_rfl
theorem m_kind_pair (x y : Value) (w : World) : (method 203 76 (.agg #[x, y]) "loop.example/pushvalue/impl.kind").run Try.prog w = .ok (71, .agg #[x, y]) w := by kernel_rfl
theorem m_countFrom_thunk (x : Value) (w : World) : (method 203 78 (.agg #[x]) "loop.example/pushvalue/impl.countFrom").run Try.prog w = .ok (72, .agg #[x]) w := by kernel_rfl
theorem m_head_thunk (x : Value) (w : World) : (method 203 78 (.agg #[x]) "loop.example/pushvalue/impl.head").run Try.prog w = .ok (73, .agg #[x]) w := by kernel_rfl
theorem m_kids_thunk (x : Value) (w : World) : (method 203 78 (.agg #[x]) "loop.example/pushvalue/impl.kids").run Try.prog w = .ok (74, .agg #[x]) w := by kernel_rfl
theorem m_kind_thunk (x : Value) (w : World) : (method 203 78 (.agg #[x]) "loop.example/pushvalue/impl.kind").run Try.prog w = .ok (75, .agg #[x]) w := by kernel_rfl
theorem m_countFrom_ret (x : Value) (w : World) : (method 203 80 (.agg #[x]) "loop.example/pushvalue/impl.countFrom").run Try.prog w = .ok (76, .agg #[x]) w := by kernel_rfl
theorem m_head_ret (x : Value) (w : World) : (method 203 80 (.agg #[x]) "loop.example/pushvalue/impl.head").run Try.prog w = .ok (77, .agg #[x]) w := by kernel_rfl
theorem m_kids_ret (x : Value) (w : World) : (method 203 80 (.agg #[x]) "loop.example/pushvalue/impl.kids").run Try.prog w = .ok (78, .agg #[x]) w := by kernel_rfl
theorem m_kind_ret (x : Value) (w : World) : (method 203 80 (.agg #[x]) "loop.example/pushvalue/impl.kind").run Try.prog w = .ok (79, .agg #[x]) w := by kernel_rfl
theorem m_countFrom_fn (x y : Value) (w : World) : (method 203 82 (.agg #[x, y]) "loop.example/pushvalue/impl.countFrom").run Try.prog w = .ok (80, .agg #[x, y]) w := by kernel_rfl
theorem m_head_fn (x y : Value) (w : World) : (method 203 82 (.agg #[x, y]) "loop.example/pushvalue/impl.head").run Try.prog w = .ok (81, .agg #[x, y]) w := by kernel_rfl
theorem m_kids_fn (x y : Value) (w : World) : (method 203 82 (.agg #[x, y]) "loop.example/pushvalue/impl.kids").run Try.prog w = .ok (82, .agg #[x, y]) w := by kernel_rfl
theorem m_kind_fn (x y : Value) (w : World) : (method 203 82 (.agg #[x, y]) "loop.example/pushvalue/impl.kind").run Try.prog w = .ok (83, .agg #[x, y]) w := by kernel_rfl
theorem m_countFrom_choice (x y : Value) (w : World) : (method 203 83 (.agg #[x, y]) "loop.example/pushvalue/impl.countFrom").run Try.prog w = .ok (84, .agg #[x, y]) w := by kernel_rfl
theorem m_head_choice (x y : Value) (w : World) : (method 203 83 (.agg #[x, y]) "loop.example/pushvalue/impl.head").run Try.prog w = .ok (85, .agg #[x, y]) w := by kernel_rfl
theorem m_kids_choice (x y : Value) (w : World) : (method 203 83 (.agg #[x, y]) "loop.example/pushvalue/impl.kids").run Try.prog w = .ok (86, .agg #[x, y]) w := by kernel_rfl
theorem m_kind_choice (x y : Value) (w : World) : (method 203 83 (.agg #[x, y]) "loop.example/pushvalue/impl.kind").run Try.prog w = .ok (87, .agg #[x, y]) w := by kernel_rfl
theorem kind_bit (w : World) : Calls Try.prog 67 #[.agg #[]] w fun e w' => e = .returned (.string strV) ∧ Below w.heap.size w w' := by
  go_enter Try.func67, Try.ntmps67
  go_wp2
  go_ret
  exact ⟨rfl, (Below.refl _ _).alloc (by simp) _⟩
theorem kind_pair (x y : Value) (w : World) : Calls Try.prog 71 #[.agg #[x, y]] w fun e w' => e = .returned (.string strV) ∧ Below w.heap.size w w' := by
  go_enter Try.func71, Try.ntmps71
  go_wp2
  go_ret
  exact ⟨rfl, (Below.refl _ _).alloc (by simp) _⟩
theorem kind_thunk (x : Value) (w : World) : Calls Try.prog 75 #[.agg #[x]] w fun e w' => e = .returned (.string strV) ∧ Below w.heap.size w w' := by
  go_enter Try.func75, Try.ntmps75
  go_wp2
  go_ret
  exact ⟨rfl, (Below.refl _ _).alloc (by simp) _⟩
theorem kind_ret (x : Value) (w : World) : Calls Try.prog 79 #[.agg #[x]] w fun e w' => e = .returned (.string strC) ∧ Below w.heap.size w w' := by
  go_enter Try.func79, Try.ntmps79
  go_wp2
  go_ret
  exact ⟨rfl, (Below.refl _ _).alloc (by simp) _⟩
theorem kind_fn (x y : Value) (w : World) : Calls Try.prog 83 #[.agg #[x, y]] w fun e w' => e = .returned (.string strC) ∧ Below w.heap.size w w' := by
  go_enter Try.func83, Try.ntmps83
  go_wp2
  go_ret
  exact ⟨rfl, (Below.refl _ _).alloc (by simp) _⟩
theorem kind_choice (x y : Value) (w : World) : Calls Try.prog 87 #[.agg #[x, y]] w fun e w' => e = .returned (.string strC) ∧ Below w.heap.size w w' := by
  go_enter Try.func87, Try.ntmps87
  go_wp2
  go_ret
  exact ⟨rfl, (Below.refl _ _).alloc (by simp) _⟩
end Go.Proofs.Ytinlibkkbjfmeaa
