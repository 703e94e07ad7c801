/- Terms in the program's memory. -/
import Derived.Test.YtfogjomebcponaaDoorNodeR
import Derived.Test.YtfogjomebcponaaDoorTermA
import Derived.Test.YtfogjomebcponaaDoorKit
namespace Go.Proofs.YtfogjomebcponaaDoor
open Go.RowKit

def tyV : Option Ty → Value
  | some t => t.val
  | none => .nilIface
theorem tyV_iface (o : Option Ty) : (∃ u v, tyV o = .iface u v) ∨ tyV o = .nilIface := by
  cases o with
  | none => exact Or.inr rfl
  | some t => obtain ⟨u, v, h⟩ := t.val_iface; exact Or.inl ⟨u, v, h⟩
/-- A term's node in memory. 'S': which blocks it lies in. -/
inductive NIn (w : World) (S : Nat → Prop) : Tm → Nat → Prop
  | mk (hd a : ByteArray) (d : Int) (bs : List ByteArray) (ty : Option Ty) (ks : List Tm) (b : Nat) (bp : Option Addr) (bl bc : Nat) (kp : Option Addr) (kl kc : Nat) (A : Nat → Nat) (hS : S b)
      (hb : w.heap[b]? = some (.cells #[.string hd, .string a, .int .i64 d, .slice bp bl bc, tyV ty, .slice kp kl kc] 54 (0, 0)))
      (hbl : bs.length = bl) (hkl : ks.length = kl) (hbn : bl ≤ bc ∧ kl ≤ kc) (hbv : RIn w S bp (bs.map Value.string)) (hkv : RIn w S kp (ptrs A kl))
      (hks : ∀ i k, ks[i]? = some k → NIn w S k (A i)) : NIn w S (.mk hd a d bs ty ks) b
theorem NIn.keep {w w' : World} {S S' : Nat → Prop} {m : Tm} {b : Nat} (h : NIn w S m b) (hb : ∀ k, S k → k < w.heap.size → w'.heap[k]? = w.heap[k]?) (hS : ∀ k, S k → k < w.heap.size → S' k) : NIn w' S' m b := by
  induction h with
  | mk hd a d bs ty ks b bp bl bc kp kl kc A hS0 hb0 hbl hkl hbn hbv hkv hks ih =>
    have hlt := lt_of_block hb0
    exact .mk hd a d bs ty ks b bp bl bc kp kl kc A (hS b hS0 hlt) ((hb b hS0 hlt).trans hb0) hbl hkl hbn (hbv.keep hb hS) (hkv.keep hb hS) ih
theorem NIn.lt {w : World} {S : Nat → Prop} {m : Tm} {b : Nat} (h : NIn w S m b) : S b ∧ b < w.heap.size := by
  cases h with
  | mk hd a d bs ty ks b bp bl bc kp kl kc A hS0 hb0 _ _ _ _ _ _ => exact ⟨hS0, lt_of_block hb0⟩

/-- The cells of a node's block, and the block behind a store. -/
theorem cells_of_six {w : World} {b : Nat} {x0 x1 x2 x3 x4 x5 : Value} {t : TypeId} (h : w.heap[b]? = some (.cells #[x0, x1, x2, x3, x4, x5] t (0, 0))) :
    w.cell? ⟨b, 0, none⟩ = some x0 ∧ w.cell? ⟨b, 1, none⟩ = some x1 ∧ w.cell? ⟨b, 2, none⟩ = some x2 ∧ w.cell? ⟨b, 3, none⟩ = some x3 ∧ w.cell? ⟨b, 4, none⟩ = some x4 ∧ w.cell? ⟨b, 5, none⟩ = some x5 ∧
    w.frozen? ⟨b, 3, none⟩ = false ∧ w.frozen? ⟨b, 4, none⟩ = false ∧ w.frozen? ⟨b, 5, none⟩ = false := by
  simp [World.cell?, World.frozen?, h]
theorem six_setCell {w : World} {b : Nat} {x0 x1 x2 x3 x4 x5 u : Value} {t : TypeId} (h : w.heap[b]? = some (.cells #[x0, x1, x2, x3, x4, x5] t (0, 0))) :
    (w.setCell ⟨b, 3, none⟩ u).heap[b]? = some (.cells #[x0, x1, x2, u, x4, x5] t (0, 0)) ∧ (w.setCell ⟨b, 4, none⟩ u).heap[b]? = some (.cells #[x0, x1, x2, x3, u, x5] t (0, 0)) ∧ (w.setCell ⟨b, 5, none⟩ u).heap[b]? = some (.cells #[x0, x1, x2, x3, x4, u] t (0, 0)) := by
  have hlt := lt_of_block h
  have h' : w.heap[b] = .cells #[x0, x1, x2, x3, x4, x5] t (0, 0) := by simpa [Array.getElem?_eq_getElem hlt] using h
  refine ⟨?_, ?_, ?_⟩
  · show (w.heap.modify b _)[b]? = _
    rw [Array.getElem?_eq_getElem (by simpa using hlt), Array.getElem_modify_self, h']; rfl
  · show (w.heap.modify b _)[b]? = _
    rw [Array.getElem?_eq_getElem (by simpa using hlt), Array.getElem_modify_self, h']; rfl
  · show (w.heap.modify b _)[b]? = _
    rw [Array.getElem?_eq_getElem (by simpa using hlt), Array.getElem_modify_self, h']; rfl

/-- What termOfPhrase leaves. -/
def TmPost (o : Option Tm) (w : World) (e : Ending) (w' : World) : Prop :=
  Below w.heap.size w w' ∧ match o with
    | some m => ∃ a : Nat, e = .returned (.tuple #[.pointer (some ⟨a, 0, none⟩), .bool true]) ∧ NIn w' (fun k => w.heap.size ≤ k) m a
    | none => e = .returned (.tuple #[.pointer none, .bool false])
theorem TmPost.none {w w' : World} {e : Ending} (h : TmPost Option.none w e w') : e = .returned (.tuple #[.pointer Option.none, .bool false]) ∧ Below w.heap.size w w' := ⟨h.2, h.1⟩
theorem TmPost.some {w w' : World} {e : Ending} {m : Tm} (h : TmPost (Option.some m) w e w') : ∃ a : Nat, e = .returned (.tuple #[.pointer (Option.some ⟨a, 0, Option.none⟩), .bool true]) ∧ Below w.heap.size w w' ∧ NIn w' (fun k => w.heap.size ≤ k) m a :=
  let ⟨hb, a, he, hn⟩ := h; ⟨a, he, hb, hn⟩
theorem leaf_in {w : World} {hd a : ByteArray} {d : Int} {b : Nat} (hb : w.heap[b]? = some (.cells #[.string hd, .string a, .int .i64 d, .slice none 0 0, .nilIface, .slice none 0 0] 54 (0, 0))) {S : Nat → Prop} (hS : S b) : NIn w S (.mk hd a d [] none []) b :=
  .mk hd a d [] none [] b none 0 0 none 0 0 (fun _ => 0) hS hb rfl rfl ⟨Nat.le_refl _, Nat.le_refl _⟩ (fun i v h => by simp at h) (fun i v h => by simp [ptrs] at h) (fun i k h => by simp at h)
end Go.Proofs.YtfogjomebcponaaDoor
