/- Merged: KindM. -/
import Derived.Shelf.Abstract
import Derived.Test.YtfogjomebcponaaGreatDoorZG14
namespace Go.Proofs.YtfogjomebcponaaGreatDoor
open Go.RowKit
def KindM (t : Ty) (n : TypeId) (v : Value) (f : Nat) : Prop := t.val = .iface n v ∧ (∀ args w, (callFunc f args).run Tryz.prog w = .ok (.enter f args) w) ∧ (∀ w, (method 338 n v "loop.example/pushvalue/impl.kind").run Tryz.prog w = .ok (f, v) w) ∧
 ∀ w, Calls Tryz.prog f #[v] w fun e w' => e = .returned (.string t.kindS) ∧ Below w.heap.size w w'
theorem kindM : ∀ t : Ty, ∃ n v f, KindM t n v f
 | .bit => ⟨_, _, _, rfl, enters_of Tryz.func220 (by kernel_rfl) rfl, m_kind_bit, fun w => (kind_bit  w).mono fun e w' ⟨he, hb⟩ => ⟨he, hb⟩⟩
 | .pair x y => ⟨_, _, _, rfl, enters_of Tryz.func200 (by kernel_rfl) rfl, m_kind_pair x.val y.val, fun w => (kind_pair _ _ w).mono fun e w' ⟨he, hb⟩ => ⟨he, hb⟩⟩
 | .thunk x => ⟨_, _, _, rfl, enters_of Tryz.func204 (by kernel_rfl) rfl, m_kind_thunk x.val, fun w => (kind_thunk _ w).mono fun e w' ⟨he, hb⟩ => ⟨he, hb⟩⟩
 | .ret x => ⟨_, _, _, rfl, enters_of Tryz.func208 (by kernel_rfl) rfl, m_kind_ret x.val, fun w => (kind_ret _ w).mono fun e w' ⟨he, hb⟩ => ⟨he, hb⟩⟩
 | .fn x y => ⟨_, _, _, rfl, enters_of Tryz.func212 (by kernel_rfl) rfl, m_kind_fn x.val y.val, fun w => (kind_fn _ _ w).mono fun e w' ⟨he, hb⟩ => ⟨he, hb⟩⟩
 | .choice x y => ⟨_, _, _, rfl, enters_of Tryz.func216 (by kernel_rfl) rfl, mki x.val y.val, fun w => (kind_choice _ _ w).mono fun e w' ⟨he, hb⟩ => ⟨he, hb⟩⟩
end Go.Proofs.YtfogjomebcponaaGreatDoor
