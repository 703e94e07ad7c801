/- A list of texts that came in, read as a list. -/
import Derived.Test.YtfogjomebcponaaGreatDoorTTSStrS
import Derived.SliceStrings
import Derived.ProofKit
namespace Go.Proofs.YtfogjomebcponaaGreatDoor
open Go.RowKit

theorem cellsStr : Tryz.prog.cellsOf 9 = 1 := by kernel_rfl
theorem strs_open {H : Type} {enc : TypeId × Value → H} {P : Program} {w : World} {base fuel : Nat} {held : Bool} {t e : TypeId} {p : Option Addr} {n c : Nat} {cs : List Value} {x : DataW H × List MemPlace} (ht : P.underlying t = some (.slice e)) (he : P.underlying e = some .string) (hc : P.cellsOf e = 1)
    (h : DataW.trod enc P w base (fun _ => true) held fuel t cs = some x) (hcs : cs = [.slice p n c]) : ∃ ss : List ByteArray, ss.length = n ∧ n ≤ 9223372036854775807 ∧ Vals w p (ss.map Value.string) ∧ ∀ s ∈ ss, s.size ≤ 9223372036854775807 := by
  rcases ChangeShapes.open_strings ht he hc h with ⟨hcs2, _⟩ | ⟨a, len', cap', zs, hcs2, _, hl, hmx, hz, _, hcell, hsz⟩
  · rw [hcs] at hcs2
    simp only [List.cons.injEq, Value.slice.injEq, and_true] at hcs2
    obtain ⟨rfl, rfl, rfl⟩ := hcs2
    exact ⟨[], rfl, by omega, fun i v hv => by simp at hv, fun s h => by simp at h⟩
  · rw [hcs] at hcs2
    simp only [List.cons.injEq, Value.slice.injEq, and_true] at hcs2
    obtain ⟨rfl, rfl, rfl⟩ := hcs2
    simp only [if_true] at hz
    unfold maxLen at hmx hsz
    refine ⟨zs.take n, by rw [List.length_take]; omega, by omega, fun i v hv => ?_, fun s hs => by have := hsz s (List.mem_of_mem_take hs); omega⟩
    have hi : i < n := by
      have := (List.getElem?_eq_some_iff.1 hv).1
      simp at this; omega
    have hc2 := hcell i (by omega)
    have hv2 : v = .string (zs.getD i ByteArray.empty) := by
      simp only [List.getElem?_map, List.getElem?_take, if_pos hi] at hv
      rw [List.getElem?_eq_getElem (by omega)] at hv
      simp at hv
      rw [← hv]; simp [List.getD, List.getElem?_eq_getElem (show i < zs.length by omega)]
    obtain ⟨b, off, spot⟩ := a
    have hspot : spot = none := by simpa [Addr.add] using World.cell?_spot (hcell 0 (by omega))
    subst hspot
    refine ⟨b, off, rfl, ?_⟩
    rw [hv2]
    have hadd : (⟨b, off, none⟩ : Addr).add i = ⟨b, off + i, none⟩ := by unfold Addr.add; split <;> simp_all
    rw [← hadd]; exact hc2
end Go.Proofs.YtfogjomebcponaaGreatDoor
