/- Merged: DrwV0. -/
import Derived.Test.YtgogoekfidbpdaaDoorSQ16
import Derived.Test.YtgogoekfidbpdaaDoorSQ12
namespace Go.Proofs.YtgogoekfidbpdaaDoor
open Go.RowKit

theorem sv_px {w w' : World} {b g n c : Nat} {l : List ByteArray} (h : SV w (some ⟨g, 0, none⟩) n c l) (hp : Px b w w') (hne : g ≠ b) : SV w' (some ⟨g, 0, none⟩) n c l :=
  ⟨h.1, h.2.1, fun i s hs => by
    obtain ⟨g2, he, hc⟩ := h.2.2 i s hs
    obtain rfl : g = g2 := by simpa using he
    exact ⟨g, rfl, hp.cell (a := ⟨g, i, none⟩) hne hc⟩⟩
theorem sv_vals {w : World} {p : Option Addr} {n c : Nat} {l : List ByteArray} (h : SV w p n c l) : Vals w p (l.map Value.string) := fun i v hv => by
  rw [List.getElem?_map] at hv
  cases hl : l[i]? with
  | none => rw [hl] at hv; cases hv
  | some s =>
    rw [hl] at hv
    obtain rfl : Value.string s = v := Option.some.inj hv
    obtain ⟨g, he, hc⟩ := h.2.2 i s hl
    exact ⟨g, 0, he, by simpa using hc⟩
theorem sv_vals_from {w : World} {g n c : Nat} {l : List ByteArray} (h : SV w (some ⟨g, 0, none⟩) n c l) : Vals w (some ⟨g, 1, none⟩) ((l.drop 1).map Value.string) := fun i v hv => by
  rw [List.getElem?_map, List.getElem?_drop] at hv
  cases hl : l[1 + i]? with
  | none => rw [hl] at hv; cases hv
  | some s =>
    rw [hl] at hv
    obtain rfl : Value.string s = v := Option.some.inj hv
    obtain ⟨g2, he, hc⟩ := h.2.2 (1 + i) s hl
    obtain rfl : g = g2 := by simpa using he
    exact ⟨g, 1, rfl, hc⟩
end Go.Proofs.YtgogoekfidbpdaaDoor
