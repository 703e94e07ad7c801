/- Merged: DrwV0. -/
import Derived.Test.YtfogjomebcponaaGreatDoorZG17
import Derived.Test.YtfogjomebcponaaGreatDoorZG12
namespace Go.Proofs.YtfogjomebcponaaGreatDoor
open Go.RowKit
theorem sv_vals {w : World} {p : Option Addr} {n c : Nat} {l : List ByteArray} (h : SV w p n c l) : Vals w p (l.map Value.string) := fun i v hv => by
 rw [List.getElem?_map] at hv
 cases hl : l[i]? with
 | none => rw [hl] at hv; cases hv
 | some s =>
  rw [hl] at hv
  obtain rfl : Value.string s = v := Option.some.inj hv
  obtain ⟨g, he, hc⟩ := h.2.2 i s hl
  exact ⟨g, 0, he, by simpa using hc⟩
end Go.Proofs.YtfogjomebcponaaGreatDoor
