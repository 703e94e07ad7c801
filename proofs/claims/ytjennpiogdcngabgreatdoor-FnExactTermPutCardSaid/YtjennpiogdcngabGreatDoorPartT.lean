/- The parts of a tree in memory; lists of texts that a call owns. -/
import Derived.Test.YtjennpiogdcngabGreatDoorSpecU0
namespace Go.Proofs.YtjennpiogdcngabGreatDoor
open Go.RowKit

/-- The texts of the parts of a tree in memory. -/
theorem part_texts {w0 : World} {S : Nat → Prop} {q : Tree} {qs : List Tree} {b n : Nat} {A : Nat → Hd} (hn : qs.length = n) (hA : ∀ i, i < n + 1 → w0.cell? ⟨b, i * 2, none⟩ = some (.string (A i).a)) (hps : ∀ i p, (q :: qs)[i]? = some p → TIn w0 S p (A i)) :
    w0.cell? ⟨b, 0, none⟩ = some (.string q.text) ∧ ∀ k p, qs[k]? = some p → w0.cell? ⟨b, (k + 1) * 2, none⟩ = some (.string p.text) := by
  refine ⟨?_, fun k p hp => ?_⟩
  · have := hA 0 (by omega)
    rw [(hps 0 q rfl).text] at this; simpa using this
  · have hk := (List.getElem?_eq_some_iff.1 hp).1
    have := hA (k + 1) (by omega)
    rw [(hps (k + 1) p (by simpa using hp)).text] at this; exact this
theorem OwnS.sv {l : List ByteArray} {w w' : World} {e : Ending} (h : OwnS l w e w') : ∃ q c, e = .returned (.slice q l.length c) ∧ SV w' q l.length c l ∧ Below w.heap.size w w' :=
  let ⟨q, c, he, ho, hb⟩ := h; ⟨q, c, he, sv_own ho, hb⟩
theorem OwnS.full {l : List ByteArray} {w w' : World} {e : Ending} (h : OwnS l w e w') : ∃ q c, e = .returned (.slice q l.length c) ∧ SV w' q l.length c l ∧ (∀ g o, q = some ⟨g, o, none⟩ → w.heap.size ≤ g ∧ g < w'.heap.size) ∧ Below w.heap.size w w' :=
  let ⟨q, c, he, ho, hb⟩ := h; ⟨q, c, he, sv_own ho, own_lt ho, hb⟩
end Go.Proofs.YtjennpiogdcngabGreatDoor
