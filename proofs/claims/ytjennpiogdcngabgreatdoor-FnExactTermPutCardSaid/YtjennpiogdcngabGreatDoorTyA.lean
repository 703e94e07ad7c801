/- Types as the program's values; the methods kind, head and kids of each. -/
import Derived.Test.YtjennpiogdcngabGreatDoorImplA
import Derived.Test.YtjennpiogdcngabGreatDoorImplB
import Derived.Deep.RegionWith
namespace Go.Proofs.YtjennpiogdcngabGreatDoor
open Go.RowKit

/-- A type. -/
inductive Ty where
  | bit
  | pair (a b : Ty)
  | thunk (c : Ty)
  | ret (a : Ty)
  | fn (a c : Ty)
  | choice (c d : Ty)
/-- A type as the program's value. -/
def Ty.val : Ty → Value
  | .bit => .iface 173 (.agg #[])
  | .pair a b => .iface 122 (.agg #[a.val, b.val])
  | .thunk c => .iface 124 (.agg #[c.val])
  | .ret a => .iface 126 (.agg #[a.val])
  | .fn a c => .iface 128 (.agg #[a.val, c.val])
  | .choice c d => .iface 129 (.agg #[c.val, d.val])
theorem Ty.val_iface (t : Ty) : ∃ u v, t.val = .iface u v := by cases t <;> exact ⟨_, _, rfl⟩
def Ty.isVal : Ty → Bool
  | .bit => true
  | .pair _ _ => true
  | .thunk _ => true
  | _ => false
def Ty.kindS (t : Ty) : ByteArray := if t.isVal then strV else strC
def Ty.headB : Ty → UInt8
  | .bit => 98
  | .pair _ _ => 42
  | .thunk _ => 117
  | .ret _ => 102
  | .fn _ _ => 62
  | .choice _ _ => 38
/-- A slice of one-cell values. -/
def Vals (w : World) (p : Option Addr) (l : List Value) : Prop := ∀ i v, l[i]? = some v → ∃ b o, p = some ⟨b, o, none⟩ ∧ w.cell? ⟨b, o + i, none⟩ = some v
theorem Vals.kept {w w' : World} {p : Option Addr} {l : List Value} (h : Vals w p l) (hk : Kept w w') : Vals w' p l := fun i v hv =>
  let ⟨b, o, hp, hc⟩ := h i v hv
  ⟨b, o, hp, hk.cell hc⟩
theorem vals_own {w : World} {base : Nat} {e : TypeId} {g n cap : Nat} {l : List Value} (h : w.ownsRow base e 1 (.slice (some ⟨g, 0, none⟩) n cap) n l) : Vals w (some ⟨g, 0, none⟩) l := by
  intro i v hv
  have hc := h.cells (g := g) rfl i v hv
  refine ⟨g, 0, rfl, ?_⟩
  have hadd : (⟨g, 0, none⟩ : Addr).add i = ⟨g, 0 + i, none⟩ := by unfold Addr.add; split <;> simp_all
  rw [← hadd]; exact hc
theorem vals_one {w : World} {b : Nat} {x : Value} {t : TypeId} (h : w.heap[b]? = some (.cells #[x] t (0, 0))) : Vals w (some ⟨b, 0, none⟩) [x] := by
  intro i v hv
  match i, hv with
  | 0, hv => simp at hv; subst hv; exact ⟨b, 0, rfl, cell_of_one h⟩
theorem vals_two {w : World} {b : Nat} {x y : Value} {t : TypeId} (h : w.heap[b]? = some (.cells #[x, y] t (0, 0))) : Vals w (some ⟨b, 0, none⟩) [x, y] := by
  intro i v hv
  match i, hv with
  | 0, hv => simp at hv; subst hv; exact ⟨b, 0, rfl, (cells_of_pair h).1⟩
  | 1, hv => simp at hv; subst hv; exact ⟨b, 0, rfl, (cells_of_pair h).2.1⟩
theorem m_countFrom_bit (w : World) : (method 329 173 (.agg #[]) "loop.example/pushvalue/impl.countFrom").run Tryz.prog w = .ok (206, .agg #[]) w := by kernel_rfl
theorem m_head_bit (w : World) : (method 329 173 (.agg #[]) "loop.example/pushvalue/impl.head").run Tryz.prog w = .ok (207, .agg #[]) w := by kernel_rfl
theorem m_kids_bit (w : World) : (method 329 173 (.agg #[]) "loop.example/pushvalue/impl.kids").run Tryz.prog w = .ok (208, .agg #[]) w := by kernel_rfl
theorem m_kind_bit (w : World) : (method 329 173 (.agg #[]) "loop.example/pushvalue/impl.kind").run Tryz.prog w = .ok (209, .agg #[]) w := by kernel_rfl
theorem m_countFrom_pair (x y : Value) (w : World) : (method 329 122 (.agg #[x, y]) "loop.example/pushvalue/impl.countFrom").run Tryz.prog w = .ok (186, .agg #[x, y]) w := by kernel_rfl
theorem m_head_pair (x y : Value) (w : World) : (method 329 122 (.agg #[x, y]) "loop.example/pushvalue/impl.head").run Tryz.prog w = .ok (187, .agg #[x, y]) w := by kernel_rfl
theorem m_kids_pair (x y : Value) (w : World) : (method 329 122 (.agg #[x, y]) "loop.example/pushvalue/impl.kids").run Tryz.prog w = .ok (188, .agg #[x, y]) w := by kernel_rfl
theorem m_kind_pair (x y : Value) (w : World) : (method 329 122 (.agg #[x, y]) "loop.example/pushvalue/impl.kind").run Tryz.prog w = .ok (189, .agg #[x, y]) w := by kernel_rfl
theorem m_countFrom_thunk (x : Value) (w : World) : (method 329 124 (.agg #[x]) "loop.example/pushvalue/impl.countFrom").run Tryz.prog w = .ok (190, .agg #[x]) w := by kernel_rfl
theorem m_head_thunk (x : Value) (w : World) : (method 329 124 (.agg #[x]) "loop.example/pushvalue/impl.head").run Tryz.prog w = .ok (191, .agg #[x]) w := by kernel_rfl
theorem m_kids_thunk (x : Value) (w : World) : (method 329 124 (.agg #[x]) "loop.example/pushvalue/impl.kids").run Tryz.prog w = .ok (192, .agg #[x]) w := by kernel_rfl
theorem m_kind_thunk (x : Value) (w : World) : (method 329 124 (.agg #[x]) "loop.example/pushvalue/impl.kind").run Tryz.prog w = .ok (193, .agg #[x]) w := by kernel_rfl
theorem m_countFrom_ret (x : Value) (w : World) : (method 329 126 (.agg #[x]) "loop.example/pushvalue/impl.countFrom").run Tryz.prog w = .ok (194, .agg #[x]) w := by kernel_rfl
theorem m_head_ret (x : Value) (w : World) : (method 329 126 (.agg #[x]) "loop.example/pushvalue/impl.head").run Tryz.prog w = .ok (195, .agg #[x]) w := by kernel_rfl
theorem m_kids_ret (x : Value) (w : World) : (method 329 126 (.agg #[x]) "loop.example/pushvalue/impl.kids").run Tryz.prog w = .ok (196, .agg #[x]) w := by kernel_rfl
theorem m_kind_ret (x : Value) (w : World) : (method 329 126 (.agg #[x]) "loop.example/pushvalue/impl.kind").run Tryz.prog w = .ok (197, .agg #[x]) w := by kernel_rfl
theorem m_countFrom_fn (x y : Value) (w : World) : (method 329 128 (.agg #[x, y]) "loop.example/pushvalue/impl.countFrom").run Tryz.prog w = .ok (198, .agg #[x, y]) w := by kernel_rfl
theorem m_head_fn (x y : Value) (w : World) : (method 329 128 (.agg #[x, y]) "loop.example/pushvalue/impl.head").run Tryz.prog w = .ok (199, .agg #[x, y]) w := by kernel_rfl
theorem m_kids_fn (x y : Value) (w : World) : (method 329 128 (.agg #[x, y]) "loop.example/pushvalue/impl.kids").run Tryz.prog w = .ok (200, .agg #[x, y]) w := by kernel_rfl
theorem m_kind_fn (x y : Value) (w : World) : (method 329 128 (.agg #[x, y]) "loop.example/pushvalue/impl.kind").run Tryz.prog w = .ok (201, .agg #[x, y]) w := by kernel_rfl
theorem m_countFrom_choice (x y : Value) (w : World) : (method 329 129 (.agg #[x, y]) "loop.example/pushvalue/impl.countFrom").run Tryz.prog w = .ok (202, .agg #[x, y]) w := by kernel_rfl
theorem m_head_choice (x y : Value) (w : World) : (method 329 129 (.agg #[x, y]) "loop.example/pushvalue/impl.head").run Tryz.prog w = .ok (203, .agg #[x, y]) w := by kernel_rfl
theorem m_kids_choice (x y : Value) (w : World) : (method 329 129 (.agg #[x, y]) "loop.example/pushvalue/impl.kids").run Tryz.prog w = .ok (204, .agg #[x, y]) w := by kernel_rfl
theorem m_kind_choice (x y : Value) (w : World) : (method 329 129 (.agg #[x, y]) "loop.example/pushvalue/impl.kind").run Tryz.prog w = .ok (205, .agg #[x, y]) w := by kernel_rfl
theorem kind_bit (w : World) : Calls Tryz.prog 209 #[.agg #[]] w fun e w' => e = .returned (.string strV) ∧ Below w.heap.size w w' := by
  go_enter Tryz.func209, Tryz.ntmps209
  go_wp2
  go_ret
  exact ⟨rfl, (Below.refl _ _).alloc (by simp) _⟩
theorem kind_pair (x y : Value) (w : World) : Calls Tryz.prog 189 #[.agg #[x, y]] w fun e w' => e = .returned (.string strV) ∧ Below w.heap.size w w' := by
  go_enter Tryz.func189, Tryz.ntmps189
  go_wp2
  go_ret
  exact ⟨rfl, (Below.refl _ _).alloc (by simp) _⟩
theorem kind_thunk (x : Value) (w : World) : Calls Tryz.prog 193 #[.agg #[x]] w fun e w' => e = .returned (.string strV) ∧ Below w.heap.size w w' := by
  go_enter Tryz.func193, Tryz.ntmps193
  go_wp2
  go_ret
  exact ⟨rfl, (Below.refl _ _).alloc (by simp) _⟩
theorem kind_ret (x : Value) (w : World) : Calls Tryz.prog 197 #[.agg #[x]] w fun e w' => e = .returned (.string strC) ∧ Below w.heap.size w w' := by
  go_enter Tryz.func197, Tryz.ntmps197
  go_wp2
  go_ret
  exact ⟨rfl, (Below.refl _ _).alloc (by simp) _⟩
theorem kind_fn (x y : Value) (w : World) : Calls Tryz.prog 201 #[.agg #[x, y]] w fun e w' => e = .returned (.string strC) ∧ Below w.heap.size w w' := by
  go_enter Tryz.func201, Tryz.ntmps201
  go_wp2
  go_ret
  exact ⟨rfl, (Below.refl _ _).alloc (by simp) _⟩
theorem kind_choice (x y : Value) (w : World) : Calls Tryz.prog 205 #[.agg #[x, y]] w fun e w' => e = .returned (.string strC) ∧ Below w.heap.size w w' := by
  go_enter Tryz.func205, Tryz.ntmps205
  go_wp2
  go_ret
  exact ⟨rfl, (Below.refl _ _).alloc (by simp) _⟩
end Go.Proofs.YtjennpiogdcngabGreatDoor
