/- A term under construction: addKid. -/
import Derived.Test.YtfogjomebcponaaDoorAddT
namespace Go.Proofs.YtfogjomebcponaaDoor
open Go.RowKit

theorem NIn.head {w : World} {S : Nat → Prop} {m : Tm} {b : Nat} (h : NIn w S m b) : ∃ hd, w.cell? ⟨b, 0, none⟩ = some (.string hd) ∧ m.isVal = isValHead hd.toList := by
  cases h with
  | mk hd a d bs ty ks b bp bl bc kp kl kc A hS0 hb0 _ _ _ _ _ _ => exact ⟨hd, (cells_of_six hb0).1, rfl⟩
theorem sort_node {w : World} {S : Nat → Prop} {m : Tm} {b : Nat} (h : NIn w S m b) : Calls Tryd.prog 73 #[.pointer (some ⟨b, 0, none⟩)] w fun e w' => e = .returned (.string (vS m.isVal)) ∧ w = w' := by
  obtain ⟨hd, hc, hv⟩ := h.head
  have := sort_any hd b w hc
  rw [show sortS hd = vS m.isVal by rw [hv, sortS]; cases isValHead hd.toList <;> rfl] at this
  exact this
/-- What the reading of a part as a term is asked for. -/
def TmAsk (w0 : World) (p : Tree) (h : Hd) : Prop := ∀ (ar : List ByteArray) (q : Option Addr) (n c : Nat) (W : World), Kept w0 W → w0.heap.size ≤ W.heap.size → SV W q n c ar → n + p.wt ≤ 12000 →
  Calls Tryd.prog 45 #[.agg #[.string h.a, .slice h.p h.l h.c], .slice q n c] W (TmPost (p.tm ar) W)
/-- The world behind the two lists put together. -/
theorem kid_frame {w w2 : World} {o1 o2 : Obj} (hb2 : Below (((w.alloc o1).alloc o2).drew).heap.size (((w.alloc o1).alloc o2).drew) w2) : Below w.heap.size w w2 :=
  ((((Below.refl w.heap.size w).alloc (Nat.le_refl _) o1).alloc (by simp) o2).drew).trans (hb2.mono (by show w.heap.size ≤ ((w.alloc o1).alloc o2).heap.size; simp; omega))
/-- The part's own block behind that. -/
theorem kid_phrase {w w2 : World} {x y : Value} {t : TypeId} {o2 : Obj} (hb2 : Below (((w.alloc (.cells #[x, y] t)).alloc o2).drew).heap.size (((w.alloc (.cells #[x, y] t)).alloc o2).drew) w2) : w2.heap[w.heap.size]? = some (.cells #[x, y] t (0, 0)) :=
  (hb2.block w.heap.size (by show w.heap.size < ((w.alloc (.cells #[x, y] t)).alloc o2).heap.size; simp; omega)).trans (show ((w.alloc (.cells #[x, y] t)).alloc o2).heap[w.heap.size]? = _ from pair_alloc (heap_new w _ _ rfl) o2)
end Go.Proofs.YtfogjomebcponaaDoor
