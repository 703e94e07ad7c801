/- Merged: OpenB. -/
import Derived.ProofKit
import Derived.Test.YtgogoekfidbpdaaDoorSQ16
namespace Go.Proofs.YtgogoekfidbpdaaDoor
open Go.RowKit

theorem u8_wf {z : Int} (h : (Lit.int .u8 z).wf = true) : 0 ≤ z ∧ z ≤ 255 := by
  have h2 : IntKind.u8.min ≤ z ∧ z ≤ IntKind.u8.max := by simpa [Lit.wf] using h
  have e1 : IntKind.u8.min = 0 := by decide
  have e2 : IntKind.u8.max = 255 := by decide
  rw [e1, e2] at h2; exact h2
theorem bytes_open {H : Type} {enc : TypeId × Value → H} {P : Program} {w : World} {base fuel : Nat} {held : Bool} {t e : TypeId} {p : Option Addr} {n c : Nat} {cs : List Value} {x : DataW H × List MemPlace} (ht : P.underlying t = some (.slice e)) (he : P.underlying e = some (.int .u8)) (hc : P.cellsOf e = 1)
    (h : DataW.trod enc P w base (fun _ => true) held fuel t cs = some x) (hcs : cs = [.slice p n c]) :
    ∃ zs : List Int, zs.length = n ∧ n ≤ 9223372036854775807 ∧ n ≤ c ∧ c ≤ maxLen ∧ Vals w p (u8s zs) ∧ (∀ z ∈ zs, 0 ≤ z ∧ z ≤ 255) ∧ (∀ g o s, p = some ⟨g, o, s⟩ → n = 0 ∨ g < w.heap.size) := by
  rcases ChangeShapes.open_ints ht he hc h with ⟨hcs2, _⟩ | ⟨a, len', cap', zs, hcs2, _, hl, hmx, hz, _, hcell, hwf⟩
  · rw [hcs] at hcs2
    simp only [List.cons.injEq, Value.slice.injEq, and_true] at hcs2
    obtain ⟨rfl, rfl, rfl⟩ := hcs2
    refine ⟨[], rfl, by omega, by omega, by unfold maxLen; omega, fun i v hv => by simp [u8s] at hv, ?_, ?_⟩
    · intro z hz; cases hz
    · intro g o s e; cases e
  · rw [hcs] at hcs2
    simp only [List.cons.injEq, Value.slice.injEq, and_true] at hcs2
    obtain ⟨rfl, rfl, rfl⟩ := hcs2
    simp only [if_true] at hz
    have hmx2 := hmx
    unfold maxLen at hmx
    refine ⟨zs.take n, by rw [List.length_take]; omega, by omega, by omega, hmx2, fun i v hv => ?_, fun z h => u8_wf (hwf z (List.mem_of_mem_take h)), fun g o s e => ?_⟩
    · have hi : i < n := by
        have := (List.getElem?_eq_some_iff.1 hv).1
        simp [u8s] at this; omega
      have hc2 := hcell i (by omega)
      have hv2 : v = .int .u8 (zs.getD i 0) := by
        simp only [u8s, List.getElem?_map, List.getElem?_take, if_pos hi] at hv
        rw [List.getElem?_eq_getElem (by omega)] at hv
        simp at hv
        rw [← hv]; simp [List.getD, List.getElem?_eq_getElem (show i < zs.length by omega)]
      obtain ⟨b, off, spot⟩ := a
      have hspot : spot = none := by simpa [Addr.add] using World.cell?_spot (hcell 0 (by omega))
      subst hspot
      refine ⟨b, off, rfl, ?_⟩
      rw [hv2]
      have hadd : (⟨b, off, none⟩ : Addr).add i = ⟨b, off + i, none⟩ := by unfold Addr.add; split <;> simp_all
      rw [← hadd]; exact hc2
    · obtain rfl := Option.some.inj e
      rcases Nat.eq_zero_or_pos n with h0 | h0
      · exact Or.inl h0
      · right
        have := World.block_lt_of_cell? w _ (hcell 0 (by omega))
        have hadd : ((⟨g, o, s⟩ : Addr).add 0).block = g := by unfold Addr.add; split <;> simp_all
        rwa [hadd] at this
end Go.Proofs.YtgogoekfidbpdaaDoor
