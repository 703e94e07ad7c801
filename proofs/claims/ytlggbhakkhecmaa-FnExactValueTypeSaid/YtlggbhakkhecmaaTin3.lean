/- A tree of three parts in memory. -/
import Derived.Test.YtlggbhakkhecmaaSpecC
namespace Go.Proofs.Ytlggbhakkhecmaa
open Go.RowKit

theorem tin3 {w : World} {S : Nat → Prop} {q x y : Tree} {h : Hd} (ht : TIn w S (.node [q, x, y]) h) : ∃ (b cap : Nat) (A : Nat → Hd), h = ⟨ByteArray.empty, some ⟨b, 0, none⟩, 3, cap⟩ ∧ (3 ≤ cap ∧ cap ≤ maxLen) ∧
    (∀ i, i < 3 → w.cell? ⟨b, i * 2, none⟩ = some (.string (A i).a)) ∧ (∀ i, i < 3 → w.cell? ⟨b, i * 2 + 1, none⟩ = some (.slice (A i).p (A i).l (A i).c)) ∧ TIn w S q (A 0) ∧ TIn w S x (A 1) ∧ TIn w S y (A 2) := by
  cases ht with
  | node ps b cap A hp hl hc hS hA hB hps => exact ⟨b, cap, A, rfl, ⟨hl, hc⟩, hA, hB, hps 0 q rfl, hps 1 x rfl, hps 2 y rfl⟩
end Go.Proofs.Ytlggbhakkhecmaa
