/- Merged: DelX. -/
import Derived.Test.YtgogoekfidbpdaaDoorSQSDelP
import Derived.Test.YtgogoekfidbpdaaDoorSQSSvP
import Derived.Test.YtgogoekfidbpdaaDoorSQ0
namespace Go.Proofs.YtgogoekfidbpdaaDoor
open Go.RowKit Go.Shelf Go.Lib Go.Sort

theorem ahead_heap (w : World) (q : Nat) : (Sort.ahead w q).heap = w.heap := rfl
/-- A row that is laid anew: what is owned behind it, and what has changed. -/
theorem own_putRow {w : World} {base g n cap : Nat} {e : TypeId} {l : List ByteArray} (h : w.ownsRow base e 1 (.slice (some ⟨g, 0, none⟩) n cap) n (l.map Value.string)) (d : Array ByteArray) (hd : d.size = n) (q : Nat) (m : Nat) (hm : m ≤ n) :
    (putRow Value.string (Sort.ahead w q) g 0 d).ownsRow base e 1 (.slice (some ⟨g, 0, none⟩) m cap) m ((d.toList.take m).map Value.string) ∧ w.grownBy (putRow Value.string (Sort.ahead w q) g 0 d) (some g) := by
  obtain ⟨hl, h2⟩ := h
  rcases h2 with ⟨hv, _⟩ | ⟨g', cap', cur, hv, hbg, hg, hnc, hcm, hcs, htake⟩
  · simp at hv
  · obtain ⟨rfl, rfl⟩ : g = g' ∧ cap = cap' := by simp at hv; exact hv
    have hheap : (putRow Value.string (Sort.ahead w q) g 0 d).heap[g]? = some (.cells (putCells Value.string 0 d cur) e (0, 0)) := by
      show (w.heap.modify g (onCells (putCells Value.string 0 d)))[g]? = _
      rw [Array.getElem?_modify, if_pos rfl, hg]; rfl
    refine ⟨⟨by simp; omega, Or.inr ⟨g, cap, putCells Value.string 0 d cur, rfl, hbg, hheap, by omega, hcm, by simp [putCells, hcs], ?_⟩⟩, ?_⟩
    · apply List.ext_getElem?
      intro i
      rw [List.getElem?_take, List.getElem?_map, List.getElem?_take]
      by_cases hi : i < m
      · have hi2 : i < m * 1 := by omega
        rw [if_pos hi2, if_pos hi]
        have hic : i < cur.size := by rw [hcs]; omega
        have hid : i < d.size := by omega
        simp only [putCells, Array.toList_mapIdx, List.getElem?_mapIdx]
        rw [Array.getElem?_toList, Array.getElem?_eq_getElem hic, Array.getElem?_toList, Array.getElem?_eq_getElem hid]
        simp only [Option.map_some]
        rw [if_pos ⟨Nat.zero_le _, by omega⟩, Nat.sub_zero, getElem!_pos d i hid]
      · have hi2 : ¬ i < m * 1 := by omega
        rw [if_neg hi2, if_neg hi]; rfl
    · refine ⟨rfl, rfl, rfl, by show w.heap.size ≤ (w.heap.modify g _).size; simp, fun k hk hkr => ?_⟩
      show (w.heap.modify g _)[k]? = _
      rw [Array.getElem?_modify, if_neg (fun e => hkr (by rw [e]))]
/-- The cells of a row that is owned. -/
theorem own_holds {w : World} {base g n cap : Nat} {e : TypeId} {l : List ByteArray} (h : w.ownsRow base e 1 (.slice (some ⟨g, 0, none⟩) n cap) n (l.map Value.string)) : Holds Value.string w g 0 l.toArray := by
  have hl : l.length = n := by have := h.1; simpa using this
  intro j hj
  have hj2 : j < l.length := by simpa using hj
  have hx : l[j]? = some l[j] := List.getElem?_eq_getElem hj2
  have hc := h.cells (g := g) rfl j (.string l[j]) (by simp [hx])
  have hadd : (⟨g, 0, none⟩ : Addr).add j = ⟨g, j, none⟩ := by unfold Addr.add; split <;> simp_all
  rw [hadd] at hc
  have e : l.toArray[j]! = l[j] := by rw [getElem!_pos l.toArray j hj]; simp
  rw [Nat.zero_add, e]
  refine ⟨hc, ?_⟩
  rcases h.2 with ⟨hv, _⟩ | ⟨g', cap', cur, hv, _, hg, hnc, _, hcs, _⟩
  · simp at hv
  · obtain ⟨rfl, rfl⟩ : g = g' ∧ cap = cap' := by simp at hv; exact hv
    simp [World.frozen?, hg]

/-- The function value of freeNames. -/
theorem free1_any (y x : ByteArray) (box b : Nat) (W : World) (h0 : W.cell? ⟨box, 0, none⟩ = some (.pointer (some ⟨b, 0, none⟩))) (h1 : W.cell? ⟨b, 2, none⟩ = some (.string x)) :
    FnGives Tryd.prog 33 #[.pointer (some ⟨box, 0, none⟩)] #[.string y] (.bool (y.toList == x.toList)) W := by
  show Calls Tryd.prog 33 #[.string y, .pointer (some ⟨box, 0, none⟩)] W _
  go_enter Tryd.func33, Tryd.ntmps33
  go_wp2
  go_ret
  exact ⟨rfl, 0, rfl⟩
theorem sort_cell {w : World} {g n : Nat} {os : Array Obj} {dk : Array ByteArray} {a : Addr} {v : Value} (hc : w.cell? a = some v) (hne : a.block ≠ g) : (sortWorld Value.string w g 0 n dk os).cell? a = some v := by
  have hlt := World.block_lt_of_cell? w a hc
  unfold sortWorld
  rw [cell?_grow _ _ _ (by show a.block < (putRow _ _ _ _ _).heap.size; rw [size_putRow]; exact hlt), cell?_putRow_other _ _ g 0 _ _ (Or.inl hne)]
  exact hc

set_option maxHeartbeats 1000000 in
theorem delS_any (l : List ByteArray) (x : ByteArray) (g n cap base box b : Nat) (w : World) (hown : w.ownsRow base 9 1 (.slice (some ⟨g, 0, none⟩) n cap) n (l.map Value.string)) (hn : n ≤ 100000)
    (h0 : w.cell? ⟨box, 0, none⟩ = some (.pointer (some ⟨b, 0, none⟩))) (h1 : w.cell? ⟨b, 2, none⟩ = some (.string x)) (hg0 : box ≠ g) (hg1 : b ≠ g) :
    Calls Tryd.prog 32 #[.slice (some ⟨g, 0, none⟩) n cap, .func (.func 33) #[] #[.pointer (some ⟨box, 0, none⟩)]] w fun e w' =>
      e = .returned (.slice (some ⟨g, 0, none⟩) (l.filter fun y => !(y.toList == x.toList)).length cap) ∧
      w'.ownsRow base 9 1 (.slice (some ⟨g, 0, none⟩) (l.filter fun y => !(y.toList == x.toList)).length cap) (l.filter fun y => !(y.toList == x.toList)).length ((l.filter fun y => !(y.toList == x.toList)).map Value.string) ∧ w.grownBy w' (some g) := by
  have hl : l.length = n := by have := hown.1; simpa using this
  have hlt0 := World.block_lt_of_cell? w _ h0
  have hlt1 := World.block_lt_of_cell? w _ h1
  have eg : ∀ args w, (callFunc 33 args).run Tryd.prog w = .ok (.enter 33 args) w := enters_of Tryd.func33 (by kernel_rfl) rfl
  have hcap : n ≤ cap := by
    rcases hown.2 with ⟨hv, _⟩ | ⟨g', cap', cur, hv, _, _, hnc, _⟩
    · simp at hv
    · obtain ⟨_, rfl⟩ : g = g' ∧ cap = cap' := by simp at hv; exact hv
      exact hnc
  have hcon := AnyE.slices_DeleteFunc Tryd.lays10 Value.string (fun _ => rfl) (fun y => y.toList == x.toList) 33 #[.pointer (some ⟨box, 0, none⟩)] eg ByteArray.empty Tryd.zeroValue9 g 0 cap l.toArray w
    (fun W y hb => free1_any y x box b W ((hb.cell (p := ⟨box, 0, none⟩) hlt0).trans h0) ((hb.cell (p := ⟨b, 2, none⟩) hlt1).trans h1))
    (fun m os dk y _ => free1_any y x box b _ (sort_cell h0 hg0) (sort_cell h1 hg1))
    (own_holds hown) (by simp [hl]; omega) (by simp [hl]; exact hcap)
  have e1 : l.toArray.size = n := by simp [hl]
  have e2 : l.toArray.toList = l := by simp
  rw [e1, e2] at hcon
  obtain ⟨F, hF⟩ : ∃ F, (l.filter fun y => !(y.toList == x.toList)) = F := ⟨_, rfl⟩
  have hFl : F.length ≤ n := by rw [← hF, ← hl]; exact List.length_filter_le _ _
  rw [hF] at hcon ⊢
  refine hcon.mono fun e w' ⟨he, q, hw⟩ => ?_
  subst hw
  have ho := own_putRow hown (F ++ List.replicate (n - F.length) ByteArray.empty).toArray (by simp; omega) q F.length hFl
  refine ⟨he, ?_, ho.2⟩
  have : ((F ++ List.replicate (n - F.length) ByteArray.empty).toArray.toList.take F.length) = F := by simp
  rw [this] at ho
  exact ho.1
end Go.Proofs.YtgogoekfidbpdaaDoor
