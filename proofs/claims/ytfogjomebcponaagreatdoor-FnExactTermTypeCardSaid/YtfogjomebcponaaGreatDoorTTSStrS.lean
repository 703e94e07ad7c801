/- Merged: StrS. -/
import Derived.OwnWalk
import Derived.Test.YtfogjomebcponaaGreatDoorTT12
import Derived.Test.YtfogjomebcponaaGreatDoorTT7
import Derived.Test.YtfogjomebcponaaGreatDoorTT9
import Derived.Test.YtfogjomebcponaaGreatDoorTT21
namespace Go.Proofs.YtfogjomebcponaaGreatDoor
open Go.RowKit

theorem copy_set (l xs : List Value) (i : Nat) (v : Value) (h : l[i]? = some v) (hl : i < xs.length) : (l.take i ++ xs.drop i).set i v = l.take (i + 1) ++ xs.drop (i + 1) := by
  have hi : i < l.length := (List.getElem?_eq_some_iff.1 h).1
  have ht : (l.take i).length = i := List.length_take_of_le (by omega)
  rw [List.set_append_right _ _ (by omega), ht, Nat.sub_self, List.drop_eq_getElem_cons hl, List.set_cons_zero, List.take_add_one, h]
  simp
theorem strs_at {l : List ByteArray} {i : Nat} {x : ByteArray} (h : l[i]? = some x) : (l.map Value.string)[i]? = some (.string x) := by simp [h]

set_option maxRecDepth 100000 in
set_option maxHeartbeats 1000000 in
theorem toStringS_any (l : List ByteArray) (p : Option Addr) (n c : Nat) (w : World) (hn : l.length = n) (hnb : n ≤ 400000000) (hv : Vals w p (l.map Value.string)) :
    Calls Tryz.prog 10 #[.slice p n c] w fun e w' => ∃ g, e = .returned (.slice (some ⟨g, 0, none⟩) n n) ∧ w'.ownsRow w.heap.size 9 1 (.slice (some ⟨g, 0, none⟩) n n) n (l.map Value.string) ∧ Below w.heap.size w w' := by
  have HV := hid hv
  have HN := hid hn
  clear hv hn
  obtain ⟨i0, hi0, hz0, hz1, hz2⟩ := info_parts Tryz.infoStr
  go_enter Tryz.func10, Tryz.ntmps10
  go_wp2_with (at_make; refine wpList_make_full _ rfl _ _ 22 rfl w.heap.size 9 i0 _ 1 Tryz.underlying22 hi0 hz0 hz1 _ _ _ _ n rfl rfl rfl rfl (by rw [hz2]; omega) (by unfold maxLen; omega) (Nat.le_refl _) ?_; intro w1 hown1 hg1; have HO1 := hid hown1; have HG1 := hid hg1; clear hown1 hg1)
  obtain ⟨xs, hxs⟩ : ∃ xs, (madeCells (Value.string ByteArray.empty).cells (n * 1)).toList = xs := ⟨_, rfl⟩
  rw [hxs] at HO1
  have hlen : xs.length = n := by have := HO1.out.1; omega
  have HB1 : Hid (Below w.heap.size w w1) := ⟨HG1.out.os, HG1.out.tape, HG1.out.output, HG1.out.size, fun k hk => HG1.out.block k hk (by simp)⟩
  have HLEN := hid hlen
  clear hxs hlen
  go_loopw [4] (fun u wr => ∃ i : Nat, i ≤ n ∧ u = .int .i64 (i : Int) ∧ wr.ownsRow w.heap.size 9 1 (.slice (some ⟨w.heap.size, 0, none⟩) n n) n ((l.map Value.string).take i ++ xs.drop i) ∧ Below w.heap.size w wr) (fun u _ => n - (intOf u).toNat)
  case atStart => exact ⟨0, Nat.zero_le _, rfl, by simpa using HO1.out, HB1.out⟩
  case round =>
    obtain ⟨i, hi, rfl, hown, hbel⟩ := hrel
    have HO := hid hown
    by_cases hlt : i < n
    · obtain ⟨z, hz⟩ : ∃ z, l[i]? = some z := ⟨_, List.getElem?_eq_getElem (by rw [HN.out]; exact hlt)⟩
      obtain ⟨b, o, rfl, hc⟩ := HV.out i _ (strs_at hz)
      have hc' := (hbel.cell (p := ⟨b, o + i, none⟩) (World.block_lt_of_cell? w _ hc)).trans hc
      have HS := hid (copy_set (l.map Value.string) xs i _ (strs_at hz) (by rw [HLEN.out]; exact hlt))
      obtain ⟨x, hx⟩ : ∃ x, xs[i]? = some x := ⟨_, List.getElem?_eq_getElem (by rw [HLEN.out]; exact hlt)⟩
      have hcc := hown.cellAt i (by omega)
      have hff := hown.frozenAt i
      rw [List.getElem?_append_right (by rw [List.length_take]; exact Nat.min_le_left _ _), List.length_take, Nat.min_eq_left (by rw [List.length_map, HN.out]; omega), Nat.sub_self, List.getElem?_drop, Nat.add_zero, hx] at hcc
      clear hown hc hz hx
      go_wp2_with fail
      go_roundw
      case rel =>
        refine ⟨i + 1, by omega, by go_num, ?_, hbel.setCell (Nat.le_refl _) _⟩
        rw [← HS.out]
        exact (HO.out.stored i _).1
      case measure => simp [intOf]; omega
    · have hin : i = n := by omega
      subst hin
      go_wp2_with fail
      go_ret
      refine ⟨_, rfl, ?_, hbel⟩
      have := HO.out
      rwa [List.drop_of_length_le (Nat.le_of_eq HLEN.out), List.append_nil, List.take_of_length_le (by rw [List.length_map, HN.out]; exact Nat.le_refl _)] at this

/-- What is left of a bound behind a list. -/
def SzPost (l : List ByteArray) (left : Nat) (w : World) (e : Ending) (w' : World) : Prop :=
  (e = .returned (.int .i64 (-1)) ∨ ∃ r : Nat, r ≤ left ∧ l.length ≤ left ∧ (∀ s ∈ l, s.size ≤ left) ∧ e = .returned (.int .i64 (r : Int))) ∧ w = w'
theorem mem_snoc {l : List ByteArray} {i : Nat} {x : ByteArray} {P : ByteArray → Prop} (hx : l[i]? = some x) (h : ∀ s ∈ l.take i, P s) (h2 : P x) : ∀ s ∈ l.take (i + 1), P s := by
  intro s hs
  rw [List.take_add_one, hx, Option.toList_some] at hs
  rcases List.mem_append.1 hs with h3 | h3
  · exact h s h3
  · simp at h3; subst h3; exact h2

set_option maxRecDepth 100000 in
set_option maxHeartbeats 1000000 in
theorem szStringS_any (l : List ByteArray) (p : Option Addr) (n c left : Nat) (w : World) (hn : l.length = n) (hnb : n ≤ 9223372036854775807) (hleft : left ≤ 1048576) (hv : Vals w p (l.map Value.string)) (hs : ∀ s ∈ l, s.size ≤ 9223372036854775807) :
    Calls Tryz.prog 8 #[.slice p n c, .int .i64 (left : Int)] w (SzPost l left w) := by
  have HV := hid hv
  have HN := hid hn
  have HS := hid hs
  clear hv hn hs
  by_cases h0 : n ≤ left
  · go_enter Tryz.func8, Tryz.ntmps8
    go_wp2_with fail
    go_loop [1, 5] (fun v u => ∃ i r : Nat, i ≤ n ∧ r ≤ left ∧ u = .int .i64 (i : Int) ∧ v = .int .i64 (r : Int) ∧ Hid (∀ s ∈ l.take i, s.size ≤ left)) (fun _ u => n - (intOf u).toNat)
    case atStart => exact ⟨0, left - n, Nat.zero_le _, by omega, rfl, by go_num, hid (by simp)⟩
    case round =>
      obtain ⟨i, r, hi, hr, rfl, rfl, hL⟩ := hrel
      by_cases hlt : i < n
      · obtain ⟨z, hz⟩ : ∃ z, l[i]? = some z := ⟨_, List.getElem?_eq_getElem (by rw [HN.out]; exact hlt)⟩
        obtain ⟨b, o, rfl, hc⟩ := HV.out i _ (strs_at hz)
        have hzs := HS.out z (List.mem_of_getElem? hz)
        by_cases hzr : z.size ≤ r
        · have HL2 := hid (mem_snoc (P := fun s => s.size ≤ left) hz hL.out (by omega))
          clear hz hL
          go_wp2_with fail
          go_round
          case rel => exact ⟨i + 1, r - z.size, by omega, by omega, by go_num, by go_num, HL2⟩
          case measure => simp [intOf]; omega
        · clear hz hL
          go_wp2_with fail
          go_ret
          exact ⟨Or.inl rfl, rfl⟩
      · have HE := hid (show l.take i = l from List.take_of_length_le (by rw [HN.out]; omega))
        have HL2 := hid (show ∀ s ∈ l, s.size ≤ left from fun s hs => hL.out s (by rw [HE.out]; exact hs))
        clear hL
        go_wp2_with fail
        go_ret
        exact ⟨Or.inr ⟨r, hr, by rw [HN.out]; exact h0, HL2.out, rfl⟩, rfl⟩
  · go_enter Tryz.func8, Tryz.ntmps8
    go_wp2_with fail
    go_ret
    exact ⟨Or.inl rfl, rfl⟩
end Go.Proofs.YtfogjomebcponaaGreatDoor
