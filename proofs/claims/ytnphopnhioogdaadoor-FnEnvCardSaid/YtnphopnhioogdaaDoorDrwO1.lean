/- A reader that is made; lists of texts that are made at once. -/
import Derived.Test.YtnphopnhioogdaaDoorDrwB
namespace Go.Proofs.YtnphopnhioogdaaDoor
open Go.RowKit

/-- A list of texts that is made at once. -/
theorem sv_lit (w : World) (l : List ByteArray) (n c : Nat) (t : TypeId) (hn : l.length = n) : SV (w.alloc (.cells (l.map Value.string).toArray t)) (some ⟨w.heap.size, 0, none⟩) n c l := by
  refine ⟨hn, fun h => (by cases h), fun i s hs => ⟨w.heap.size, rfl, ?_⟩⟩
  have h := heap_alloc_new w (.cells (l.map Value.string).toArray t)
  unfold World.cell?
  rw [show (⟨w.heap.size, i, none⟩ : Addr).block = w.heap.size from rfl, h]
  simp [hs]
theorem Px.alloc {b : Nat} {w w' : World} (h : Px b w w') (o : Obj) : Px b w (w'.alloc o) := h.trans (Px.below ((Below.refl w'.heap.size w').alloc (Nat.le_refl _) o) (Nat.le_refl _))

set_option maxRecDepth 100000 in
set_option maxHeartbeats 2000000 in
/-- A reader is made. -/
theorem open_any {w : World} {p : Option Addr} {n c : Nat} {zs : List Int} (hl : zs.length = n) (hn : n ≤ 100000000) (hz : ∀ z ∈ zs, 0 ≤ z ∧ z ≤ 255) (hp : ∀ g o s, p = some ⟨g, o, s⟩ → n = 0 ∨ g < w.heap.size) (hv : Vals w p (u8s zs)) (hc : n ≤ c) :
    Calls Tryd.prog 35 #[.slice p n c] w fun e w' => e = .returned (.pointer (some ⟨w.heap.size, 0, none⟩)) ∧ Rd w' w.heap.size 0 ∧ Below w.heap.size w w' := by
  have key : ∀ (m d : Nat) (ys : List Int), ys.length = m → m ≤ 2000 → m ≤ n → (∀ z ∈ ys, 0 ≤ z ∧ z ≤ 255) → Vals w p (u8s ys) → Rd (w.alloc (.cells #[.slice p m d, .int .i64 0] 75)) w.heap.size 0 := by
    intro m d ys h1 h2 h5 h3 h4
    have hb := (Below.refl w.heap.size w).alloc (Nat.le_refl _) (.cells #[.slice p m d, .int .i64 0] 75)
    exact ⟨p, m, d, ys, 0, heap_alloc_new w _, Nat.le_refl _, h1, h2, h3, fun g o s e => (hp g o s e).imp (fun h => by omega) id, h4.kept (Kept.of_below hb (Nat.le_refl _))⟩
  by_cases h : n ≤ 2000
  · have HK := hid (key n c zs hl h (Nat.le_refl _) hz hv)
    clear hl hz hp hv key
    go_enter Tryd.func35, Tryd.ntmps35
    go_wp2_with fail
    go_ret
    exact ⟨rfl, HK.out, (Below.refl _ _).alloc (Nat.le_refl _) _⟩
  · have HK := hid (key 2000 c (zs.take 2000) (by rw [List.length_take]; omega) (Nat.le_refl _) (by omega) (fun z h => hz z (List.mem_of_mem_take h)) (fun i v hi => hv i v (by
      simp only [u8s, List.getElem?_map, List.getElem?_take] at hi ⊢
      split at hi
      · exact hi
      · simp at hi)))
    have h2 : 2000 < n := by omega
    clear hl hz hp hv key h
    go_enter Tryd.func35, Tryd.ntmps35
    go_wp2_with fail
    go_ret
    exact ⟨rfl, HK.out, (Below.refl _ _).alloc (Nat.le_refl _) _⟩
end Go.Proofs.YtnphopnhioogdaaDoor
