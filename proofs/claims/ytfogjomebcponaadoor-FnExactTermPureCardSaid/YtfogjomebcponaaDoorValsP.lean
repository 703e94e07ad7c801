/- A slice of one-cell values. -/
import Derived.Test.YtfogjomebcponaaDoorKit
namespace Go.Proofs.YtfogjomebcponaaDoor
open Go.RowKit

/-- A slice of one-cell values. -/
def Vals (w : World) (p : Option Addr) (l : List Value) : Prop := ∀ i v, l[i]? = some v → ∃ b o, p = some ⟨b, o, none⟩ ∧ w.cell? ⟨b, o + i, none⟩ = some v
theorem Vals.kept {w w' : World} {p : Option Addr} {l : List Value} (h : Vals w p l) (hk : Kept w w') : Vals w' p l := fun i v hv =>
  let ⟨b, o, hp, hc⟩ := h i v hv
  ⟨b, o, hp, hk.cell hc⟩
theorem vals_own {w : World} {base : Nat} {e : TypeId} {g n cap : Nat} {l : List Value} (h : w.ownsRow base e 1 (.slice (some ⟨g, 0, none⟩) n cap) n l) : Vals w (some ⟨g, 0, none⟩) l := by
  intro i v hv
  have hc := h.cells (g := g) rfl i v hv
  refine ⟨g, 0, rfl, ?_⟩
  have hadd : (⟨g, 0, none⟩ : Addr).add i = ⟨g, 0 + i, none⟩ := by unfold Addr.add; split <;> simp_all
  rw [← hadd]; exact hc
theorem vals_one {w : World} {b : Nat} {x : Value} {t : TypeId} (h : w.heap[b]? = some (.cells #[x] t (0, 0))) : Vals w (some ⟨b, 0, none⟩) [x] := by
  intro i v hv
  match i, hv with
  | 0, hv => simp at hv; subst hv; exact ⟨b, 0, rfl, cell_of_one h⟩
theorem vals_two {w : World} {b : Nat} {x y : Value} {t : TypeId} (h : w.heap[b]? = some (.cells #[x, y] t (0, 0))) : Vals w (some ⟨b, 0, none⟩) [x, y] := by
  intro i v hv
  match i, hv with
  | 0, hv => simp at hv; subst hv; exact ⟨b, 0, rfl, (cells_of_pair h).1⟩
  | 1, hv => simp at hv; subst hv; exact ⟨b, 0, rfl, (cells_of_pair h).2.1⟩
theorem vals_any {w : World} {base : Nat} {e : TypeId} {p : Option Addr} {n c : Nat} {xs : List Value} (h : w.ownsRow base e 1 (.slice p n c) n xs) : Vals w p xs := by
  rcases h.2 with ⟨_, hn⟩ | ⟨g, cap, cur, hv, _⟩
  · have : xs = [] := List.eq_nil_of_length_eq_zero (by have := h.1; omega)
    subst this; intro i v hv; simp at hv
  · obtain ⟨rfl, _, rfl⟩ : p = some ⟨g, 0, none⟩ ∧ True ∧ c = cap := by simp at hv; exact ⟨hv.1, trivial, hv.2⟩
    exact vals_own h

theorem own_base {w : World} {base base' size n : Nat} {e : TypeId} {v : Value} {xs : List Value} (h : w.ownsRow base e size v n xs) (hb : base' ≤ base) : w.ownsRow base' e size v n xs :=
  ⟨h.1, h.2.elim Or.inl (fun ⟨g, cap, cur, hv, hg, r⟩ => Or.inr ⟨g, cap, cur, hv, Nat.le_trans hb hg, r⟩)⟩
end Go.Proofs.YtfogjomebcponaaDoor
