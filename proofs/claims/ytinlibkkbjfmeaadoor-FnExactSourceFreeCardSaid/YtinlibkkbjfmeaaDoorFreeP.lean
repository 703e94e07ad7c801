/- What a function leaves that gathers names in a list. -/
import Derived.Test.YtinlibkkbjfmeaaDoorHasS
namespace Go.Proofs.YtinlibkkbjfmeaaDoor
open Go.RowKit

/-- What l2Free leaves: a list of the call's own, grown. -/
def FreePost (base : Nat) (v0 : Value) (L : List ByteArray) (w : World) (e : Ending) (w' : World) : Prop :=
  ∃ q c, e = .returned (.slice q L.length c) ∧ w'.ownsRow base 9 1 (.slice q L.length c) L.length (L.map Value.string) ∧ w.grownBy w' v0.ownBlock ∧
    ((Value.slice q L.length c).ownBlock = v0.ownBlock ∨ ∃ g, (Value.slice q L.length c).ownBlock = some g ∧ w.heap.size ≤ g)
theorem grow_chain {W0 wr w3 w4 : World} {r0 r : Option Nat} (h : W0.grownBy wr r0) (hb : Below wr.heap.size wr w3) (hg : w3.grownBy w4 r) (hr : r = r0 ∨ ∃ g, r = some g ∧ W0.heap.size ≤ g) : W0.grownBy w4 r0 := by
  refine ⟨hg.os.trans (hb.os.trans h.os), hg.tape.trans (hb.tape.trans h.tape), hg.output.trans (hb.output.trans h.output), Nat.le_trans h.size (Nat.le_trans hb.size hg.size), fun k hk hkr => ?_⟩
  have h1 := h.size
  have h2 := hb.size
  rw [hg.block k (by omega) ?_, hb.block k (by omega), h.block k hk hkr]
  rcases hr with e | ⟨g, e, hgl⟩
  · rw [e]; exact hkr
  · rw [e]; intro e2; have := Option.some.inj e2; omega
theorem SV.grown {w w' : World} {p : Option Addr} {n c : Nat} {l : List ByteArray} {r : Option Nat} (h : SV w p n c l) (hg : w.grownBy w' r) (hp : ∀ g o, p = some ⟨g, o, none⟩ → r ≠ some g) : SV w' p n c l :=
  ⟨h.1, h.2.1, fun i s hs => let ⟨g, e, hc⟩ := h.2.2 i s hs; ⟨g, e, (World.cell?_of_block (w := w) (a := ⟨g, i, none⟩) (hg.block g (World.block_lt_of_cell? w _ hc) (fun x => hp g 0 e x.symm))).trans hc⟩⟩
end Go.Proofs.YtinlibkkbjfmeaaDoor
