/- A list of numbers that came in, read as a list. -/
import Derived.Test.YtdeahcejbdcmpaaIntS
import Derived.ProofKit
namespace Go.Proofs.Ytdeahcejbdcmpaa
open Go.RowKit

theorem ints_open {H : Type} {enc : TypeId × Value → H} {P : Program} {w : World} {base fuel : Nat} {held : Bool} {t e : TypeId} {p : Option Addr} {n c : Nat} {cs : List Value} {x : DataW H × List MemPlace} (ht : P.underlying t = some (.slice e)) (he : P.underlying e = some (.int .i64)) (hc : P.cellsOf e = 1)
    (h : DataW.trod enc P w base (fun _ => true) held fuel t cs = some x) (hcs : cs = [.slice p n c]) : ∃ zs : List Int, zs.length = n ∧ n ≤ 9223372036854775807 ∧ Vals w p (ints zs) := by
  rcases ChangeShapes.open_ints ht he hc h with ⟨hcs2, _⟩ | ⟨a, len', cap', zs, hcs2, _, hl, hmx, hz, _, hcell, _⟩
  · rw [hcs] at hcs2
    simp only [List.cons.injEq, Value.slice.injEq, and_true] at hcs2
    obtain ⟨rfl, rfl, rfl⟩ := hcs2
    exact ⟨[], rfl, by omega, fun i v hv => by simp [ints] at hv⟩
  · rw [hcs] at hcs2
    simp only [List.cons.injEq, Value.slice.injEq, and_true] at hcs2
    obtain ⟨rfl, rfl, rfl⟩ := hcs2
    simp only [if_true] at hz
    unfold maxLen at hmx
    refine ⟨zs.take n, by rw [List.length_take]; omega, by omega, fun i v hv => ?_⟩
    have hi : i < n := by
      have := (List.getElem?_eq_some_iff.1 hv).1
      simp [ints] at this; omega
    have hc2 := hcell i (by omega)
    have hv2 : v = .int .i64 (zs.getD i 0) := by
      simp only [ints, List.getElem?_map, List.getElem?_take, if_pos hi] at hv
      rw [List.getElem?_eq_getElem (by omega)] at hv
      simp at hv
      rw [← hv]; simp [List.getD, List.getElem?_eq_getElem (show i < zs.length by omega)]
    obtain ⟨b, off, spot⟩ := a
    have hspot : spot = none := by simpa [Addr.add] using World.cell?_spot (hcell 0 (by omega))
    subst hspot
    refine ⟨b, off, rfl, ?_⟩
    rw [hv2]
    have hadd : (⟨b, off, none⟩ : Addr).add i = ⟨b, off + i, none⟩ := by unfold Addr.add; split <;> simp_all
    rw [← hadd]; exact hc2
end Go.Proofs.Ytdeahcejbdcmpaa
