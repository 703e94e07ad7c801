/- Worlds behind meaningOf's first boxes. -/
import Derived.Test.YtnmbkaemdblhpaaGreatDoorValP
namespace Go.Proofs.YtnmbkaemdblhpaaGreatDoor
open Go.RowKit Go.Maps

theorem grown_setC (W : World) (b i : Nat) (v : Value) : W.grownBy (W.setCell ⟨b, i, none⟩ v) (some b) :=
  ⟨rfl, rfl, rfl, by show W.heap.size ≤ (W.heap.modify b _).size; simp, fun k _ hk => by
    show (W.heap.modify b _)[k]? = W.heap[k]?
    rw [Array.getElem?_modify]
    rw [if_neg (fun e => hk (by rw [e]))]⟩
theorem grown_four (W : World) (b : Nat) (u0 u1 u2 u3 : Value) : W.grownBy ((((W.setCell ⟨b, 0, none⟩ u0).setCell ⟨b, 1, none⟩ u1).setCell ⟨b, 2, none⟩ u2).setCell ⟨b, 3, none⟩ u3) (some b) :=
  (((grown_setC W b 0 u0).trans (grown_setC _ b 1 u1)).trans (grown_setC _ b 2 u2)).trans (grown_setC _ b 3 u3)
/-- What lies in a block of cells. -/
theorem cell_of {W : World} {b i : Nat} {cs : Array Value} {t : TypeId} {fr : Nat × Nat} {v : Value} (h : W.heap[b]? = some (.cells cs t fr)) (hv : cs[i]? = some v) : W.cell? ⟨b, i, none⟩ = some v := by
  simp [World.cell?, h, hv]
/-- Behind four boxes, whatever grows but the map. -/
theorem four_boxes (w : World) (o1 o2 o3 o4 : Obj) {b : Nat} (hb : b < w.heap.size) {W : World} (hg : ((((w.alloc o1).alloc o2).alloc o3).alloc o4).grownBy W (some b)) :
    W.heap[w.heap.size]? = some o1 ∧ W.heap[w.heap.size + 1]? = some o2 ∧ W.heap[w.heap.size + 1 + 1]? = some o3 ∧ W.heap[w.heap.size + 1 + 1 + 1]? = some o4 ∧ w.grownBy W (some b) := by
  have g1 := World.grownBy_alloc w o1 none
  have g2 := World.grownBy_alloc (w.alloc o1) o2 none
  have g3 := World.grownBy_alloc ((w.alloc o1).alloc o2) o3 none
  have g4 := World.grownBy_alloc (((w.alloc o1).alloc o2).alloc o3) o4 none
  have b1 := block_grown (block_grown (block_grown (heap_new w o1 _ rfl) g2 (by simp)) g3 (by simp)) g4 (by simp)
  have b2 := block_grown (block_grown (heap_new (w.alloc o1) o2 (w.heap.size + 1) (by simp)) g3 (by simp)) g4 (by simp)
  have b3 := block_grown (heap_new ((w.alloc o1).alloc o2) o3 (w.heap.size + 1 + 1) (by simp)) g4 (by simp)
  have b4 := heap_new (((w.alloc o1).alloc o2).alloc o3) o4 (w.heap.size + 1 + 1 + 1) (by simp)
  refine ⟨block_grown b1 hg (by simp; omega), block_grown b2 hg (by simp; omega), block_grown b3 hg (by simp; omega), block_grown b4 hg (by simp; omega), ?_⟩
  exact ((((World.grownBy_alloc w o1 (some b)).trans (World.grownBy_alloc _ o2 (some b))).trans (World.grownBy_alloc _ o3 (some b))).trans (World.grownBy_alloc _ o4 (some b))).trans hg
end Go.Proofs.YtnmbkaemdblhpaaGreatDoor
