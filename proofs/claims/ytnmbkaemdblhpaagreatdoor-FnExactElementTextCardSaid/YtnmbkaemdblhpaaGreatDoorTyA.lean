/- Types as the program's values; the methods kind, head and kids of each. -/
import Derived.Test.YtnmbkaemdblhpaaGreatDoorImplA
import Derived.Test.YtnmbkaemdblhpaaGreatDoorImplB
import Derived.Deep.RegionWith
namespace Go.Proofs.YtnmbkaemdblhpaaGreatDoor
open Go.RowKit

/-- A type. -/
inductive Ty where
  | bit
  | pair (a b : Ty)
  | thunk (c : Ty)
  | ret (a : Ty)
  | fn (a c : Ty)
  | choice (c d : Ty)
/-- A type as the program's value. -/
def Ty.val : Ty → Value
  | .bit => .iface 119 (.agg #[])
  | .pair a b => .iface 73 (.agg #[a.val, b.val])
  | .thunk c => .iface 76 (.agg #[c.val])
  | .ret a => .iface 112 (.agg #[a.val])
  | .fn a c => .iface 108 (.agg #[a.val, c.val])
  | .choice c d => .iface 110 (.agg #[c.val, d.val])
theorem Ty.val_iface (t : Ty) : ∃ u v, t.val = .iface u v := by cases t <;> exact ⟨_, _, rfl⟩
def Ty.isVal : Ty → Bool
  | .bit => true
  | .pair _ _ => true
  | .thunk _ => true
  | _ => false
def Ty.kindS (t : Ty) : ByteArray := if t.isVal then strV else strC
def Ty.headB : Ty → UInt8
  | .bit => 98
  | .pair _ _ => 42
  | .thunk _ => 117
  | .ret _ => 102
  | .fn _ _ => 62
  | .choice _ _ => 38
/-- A slice of one-cell values. -/
def Vals (w : World) (p : Option Addr) (l : List Value) : Prop := ∀ i v, l[i]? = some v → ∃ b o, p = some ⟨b, o, none⟩ ∧ w.cell? ⟨b, o + i, none⟩ = some v
theorem Vals.kept {w w' : World} {p : Option Addr} {l : List Value} (h : Vals w p l) (hk : Kept w w') : Vals w' p l := fun i v hv =>
  let ⟨b, o, hp, hc⟩ := h i v hv
  ⟨b, o, hp, hk.cell hc⟩
theorem vals_own {w : World} {base : Nat} {e : TypeId} {g n cap : Nat} {l : List Value} (h : w.ownsRow base e 1 (.slice (some ⟨g, 0, none⟩) n cap) n l) : Vals w (some ⟨g, 0, none⟩) l := by
  intro i v hv
  have hc := h.cells (g := g) rfl i v hv
  refine ⟨g, 0, rfl, ?_⟩
  have hadd : (⟨g, 0, none⟩ : Addr).add i = ⟨g, 0 + i, none⟩ := by unfold Addr.add; split <;> simp_all
  rw [← hadd]; exact hc
theorem vals_one {w : World} {b : Nat} {x : Value} {t : TypeId} (h : w.heap[b]? = some (.cells #[x] t (0, 0))) : Vals w (some ⟨b, 0, none⟩) [x] := by
  intro i v hv
  match i, hv with
  | 0, hv => simp at hv; subst hv; exact ⟨b, 0, rfl, cell_of_one h⟩
theorem vals_two {w : World} {b : Nat} {x y : Value} {t : TypeId} (h : w.heap[b]? = some (.cells #[x, y] t (0, 0))) : Vals w (some ⟨b, 0, none⟩) [x, y] := by
  intro i v hv
  match i, hv with
  | 0, hv => simp at hv; subst hv; exact ⟨b, 0, rfl, (cells_of_pair h).1⟩
  | 1, hv => simp at hv; subst hv; exact ⟨b, 0, rfl, (cells_of_pair h).2.1⟩
theorem m_countFrom_bit (w : World) : (method 280 119 (.agg #[]) "loop.example/pushvalue/impl.countFrom").run Tryz.prog w = .ok (128, .agg #[]) w := by kernel_rfl
theorem m_head_bit (w : World) : (method 280 119 (.agg #[]) "loop.example/pushvalue/impl.head").run Tryz.prog w = .ok (129, .agg #[]) w := by kernel_rfl
theorem m_kids_bit (w : World) : (method 280 119 (.agg #[]) "loop.example/pushvalue/impl.kids").run Tryz.prog w = .ok (130, .agg #[]) w := by kernel_rfl
theorem m_kind_bit (w : World) : (method 280 119 (.agg #[]) "loop.example/pushvalue/impl.kind").run Tryz.prog w = .ok (131, .agg #[]) w := by kernel_rfl
theorem m_countFrom_pair (x y : Value) (w : World) : (method 280 73 (.agg #[x, y]) "loop.example/pushvalue/impl.countFrom").run Tryz.prog w = .ok (108, .agg #[x, y]) w := by kernel_rfl
theorem m_head_pair (x y : Value) (w : World) : (method 280 73 (.agg #[x, y]) "loop.example/pushvalue/impl.head").run Tryz.prog w = .ok (109, .agg #[x, y]) w := by kernel_rfl
theorem m_kids_pair (x y : Value) (w : World) : (method 280 73 (.agg #[x, y]) "loop.example/pushvalue/impl.kids").run Tryz.prog w = .ok (110, .agg #[x, y]) w := by kernel_rfl
theorem m_kind_pair (x y : Value) (w : World) : (method 280 73 (.agg #[x, y]) "loop.example/pushvalue/impl.kind").run Tryz.prog w = .ok (111, .agg #[x, y]) w := by kernel_rfl
theorem m_countFrom_thunk (x : Value) (w : World) : (method 280 76 (.agg #[x]) "loop.example/pushvalue/impl.countFrom").run Tryz.prog w = .ok (112, .agg #[x]) w := by kernel_rfl
theorem m_head_thunk (x : Value) (w : World) : (method 280 76 (.agg #[x]) "loop.example/pushvalue/impl.head").run Tryz.prog w = .ok (113, .agg #[x]) w := by kernel_rfl
theorem m_kids_thunk (x : Value) (w : World) : (method 280 76 (.agg #[x]) "loop.example/pushvalue/impl.kids").run Tryz.prog w = .ok (114, .agg #[x]) w := by kernel_rfl
theorem m_kind_thunk (x : Value) (w : World) : (method 280 76 (.agg #[x]) "loop.example/pushvalue/impl.kind").run Tryz.prog w = .ok (115, .agg #[x]) w := by kernel_rfl
theorem m_countFrom_ret (x : Value) (w : World) : (method 280 112 (.agg #[x]) "loop.example/pushvalue/impl.countFrom").run Tryz.prog w = .ok (124, .agg #[x]) w := by kernel_rfl
theorem m_head_ret (x : Value) (w : World) : (method 280 112 (.agg #[x]) "loop.example/pushvalue/impl.head").run Tryz.prog w = .ok (125, .agg #[x]) w := by kernel_rfl
theorem m_kids_ret (x : Value) (w : World) : (method 280 112 (.agg #[x]) "loop.example/pushvalue/impl.kids").run Tryz.prog w = .ok (126, .agg #[x]) w := by kernel_rfl
theorem m_kind_ret (x : Value) (w : World) : (method 280 112 (.agg #[x]) "loop.example/pushvalue/impl.kind").run Tryz.prog w = .ok (127, .agg #[x]) w := by kernel_rfl
theorem m_countFrom_fn (x y : Value) (w : World) : (method 280 108 (.agg #[x, y]) "loop.example/pushvalue/impl.countFrom").run Tryz.prog w = .ok (116, .agg #[x, y]) w := by kernel_rfl
theorem m_head_fn (x y : Value) (w : World) : (method 280 108 (.agg #[x, y]) "loop.example/pushvalue/impl.head").run Tryz.prog w = .ok (117, .agg #[x, y]) w := by kernel_rfl
theorem m_kids_fn (x y : Value) (w : World) : (method 280 108 (.agg #[x, y]) "loop.example/pushvalue/impl.kids").run Tryz.prog w = .ok (118, .agg #[x, y]) w := by kernel_rfl
theorem m_kind_fn (x y : Value) (w : World) : (method 280 108 (.agg #[x, y]) "loop.example/pushvalue/impl.kind").run Tryz.prog w = .ok (119, .agg #[x, y]) w := by kernel_rfl
theorem m_countFrom_choice (x y : Value) (w : World) : (method 280 110 (.agg #[x, y]) "loop.example/pushvalue/impl.countFrom").run Tryz.prog w = .ok (120, .agg #[x, y]) w := by kernel_rfl
theorem m_head_choice (x y : Value) (w : World) : (method 280 110 (.agg #[x, y]) "loop.example/pushvalue/impl.head").run Tryz.prog w = .ok (121, .agg #[x, y]) w := by kernel_rfl
theorem m_kids_choice (x y : Value) (w : World) : (method 280 110 (.agg #[x, y]) "loop.example/pushvalue/impl.kids").run Tryz.prog w = .ok (122, .agg #[x, y]) w := by kernel_rfl
theorem m_kind_choice (x y : Value) (w : World) : (method 280 110 (.agg #[x, y]) "loop.example/pushvalue/impl.kind").run Tryz.prog w = .ok (123, .agg #[x, y]) w := by kernel_rfl
theorem kind_bit (w : World) : Calls Tryz.prog 131 #[.agg #[]] w fun e w' => e = .returned (.string strV) ∧ Below w.heap.size w w' := by
  go_enter Tryz.func131, Tryz.ntmps131
  go_wp2
  go_ret
  exact ⟨rfl, (Below.refl _ _).alloc (by simp) _⟩
theorem kind_pair (x y : Value) (w : World) : Calls Tryz.prog 111 #[.agg #[x, y]] w fun e w' => e = .returned (.string strV) ∧ Below w.heap.size w w' := by
  go_enter Tryz.func111, Tryz.ntmps111
  go_wp2
  go_ret
  exact ⟨rfl, (Below.refl _ _).alloc (by simp) _⟩
theorem kind_thunk (x : Value) (w : World) : Calls Tryz.prog 115 #[.agg #[x]] w fun e w' => e = .returned (.string strV) ∧ Below w.heap.size w w' := by
  go_enter Tryz.func115, Tryz.ntmps115
  go_wp2
  go_ret
  exact ⟨rfl, (Below.refl _ _).alloc (by simp) _⟩
theorem kind_ret (x : Value) (w : World) : Calls Tryz.prog 127 #[.agg #[x]] w fun e w' => e = .returned (.string strC) ∧ Below w.heap.size w w' := by
  go_enter Tryz.func127, Tryz.ntmps127
  go_wp2
  go_ret
  exact ⟨rfl, (Below.refl _ _).alloc (by simp) _⟩
theorem kind_fn (x y : Value) (w : World) : Calls Tryz.prog 119 #[.agg #[x, y]] w fun e w' => e = .returned (.string strC) ∧ Below w.heap.size w w' := by
  go_enter Tryz.func119, Tryz.ntmps119
  go_wp2
  go_ret
  exact ⟨rfl, (Below.refl _ _).alloc (by simp) _⟩
theorem kind_choice (x y : Value) (w : World) : Calls Tryz.prog 123 #[.agg #[x, y]] w fun e w' => e = .returned (.string strC) ∧ Below w.heap.size w w' := by
  go_enter Tryz.func123, Tryz.ntmps123
  go_wp2
  go_ret
  exact ⟨rfl, (Below.refl _ _).alloc (by simp) _⟩
end Go.Proofs.YtnmbkaemdblhpaaGreatDoor
