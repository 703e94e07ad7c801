/- Lists of texts as slices. -/
import Derived.Test.YtfogjomebcponaaDoorKit
import Derived.Laws.OwnMore
namespace Go.Proofs.YtfogjomebcponaaDoor
open Go.RowKit

/-- A slice of texts reads as a list. -/
def SV (w : World) (p : Option Addr) (n c : Nat) (l : List ByteArray) : Prop :=
  l.length = n ∧ (p = none → n = 0 ∧ c = 0) ∧ ∀ i s, l[i]? = some s → ∃ g, p = some ⟨g, 0, none⟩ ∧ w.cell? ⟨g, i, none⟩ = some (.string s)
theorem SV.nil (w : World) : SV w none 0 0 [] := ⟨rfl, fun _ => ⟨rfl, rfl⟩, fun i s h => by simp at h⟩
theorem SV.kept {w w' : World} {p : Option Addr} {n c : Nat} {l : List ByteArray} (h : SV w p n c l) (hk : Kept w w') : SV w' p n c l :=
  ⟨h.1, h.2.1, fun i s hs => let ⟨g, hp, hc⟩ := h.2.2 i s hs; ⟨g, hp, hk.cell hc⟩⟩
/-- The same where only newer blocks have turned. -/
theorem SV.under {w w' : World} {p : Option Addr} {n c B : Nat} {l : List ByteArray} (h : SV w p n c l) (hb : Below B w w') (hB : ∀ g o, p = some ⟨g, o, none⟩ → g < B) : SV w' p n c l :=
  ⟨h.1, h.2.1, fun i s hs => let ⟨g, hp, hc⟩ := h.2.2 i s hs; ⟨g, hp, (hb.cell (p := ⟨g, i, none⟩) (hB g 0 hp)).trans hc⟩⟩
theorem sv_own {w : World} {base n c : Nat} {e : TypeId} {p : Option Addr} {l : List ByteArray} (h : w.ownsRow base e 1 (.slice p n c) n (l.map Value.string)) : SV w p n c l := by
  have hl : l.length = n := by have := h.1; simpa using this
  refine ⟨hl, ?_, ?_⟩
  · intro hp
    rcases h.2 with ⟨hv, hn⟩ | ⟨g, cap, cur, hv, _⟩
    · simp at hv; exact ⟨hn, hv.2.2⟩
    · simp [hp] at hv
  · intro i s hs
    rcases h.2 with ⟨hv, hn⟩ | ⟨g, cap, cur, hv, _⟩
    · have : l = [] := List.eq_nil_of_length_eq_zero (by omega)
      subst this; simp at hs
    · obtain ⟨rfl, rfl⟩ : p = some ⟨g, 0, none⟩ ∧ c = cap := by simpa using hv
      have hc := h.cells (g := g) rfl i (.string s) (by simp [hs])
      have hadd : (⟨g, 0, none⟩ : Addr).add i = ⟨g, i, none⟩ := by unfold Addr.add; split <;> simp_all
      rw [hadd] at hc
      exact ⟨g, rfl, hc⟩
theorem own_lt {w : World} {base n c size : Nat} {e : TypeId} {p : Option Addr} {xs : List Value} (h : w.ownsRow base e size (.slice p n c) n xs) : ∀ g o, p = some ⟨g, o, none⟩ → base ≤ g ∧ g < w.heap.size := by
  intro g o hp
  subst hp
  exact h.lt g rfl

end Go.Proofs.YtfogjomebcponaaDoor
