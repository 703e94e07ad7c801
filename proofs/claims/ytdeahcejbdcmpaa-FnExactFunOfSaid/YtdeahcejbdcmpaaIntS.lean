/- The kit of the laws over lists of numbers: a copy of a list, equal lists. -/
import Derived.Test.YtdeahcejbdcmpaaLawI
import Derived.OwnWalk
namespace Go.Proofs.Ytdeahcejbdcmpaa
open Go.RowKit

/-- Numbers as values. -/
def ints (zs : List Int) : List Value := zs.map fun z => Value.int .i64 z
theorem ints_length (zs : List Int) : (ints zs).length = zs.length := by simp [ints]
theorem ints_get {zs : List Int} {i : Nat} {z : Int} (h : zs[i]? = some z) : (ints zs)[i]? = some (.int .i64 z) := by simp [ints, h]
theorem copy_set (l xs : List Value) (i : Nat) (v : Value) (h : l[i]? = some v) (hl : i < xs.length) : (l.take i ++ xs.drop i).set i v = l.take (i + 1) ++ xs.drop (i + 1) := by
  have hi : i < l.length := (List.getElem?_eq_some_iff.1 h).1
  have ht : (l.take i).length = i := List.length_take_of_le (by omega)
  rw [List.set_append_right _ _ (by omega), ht, Nat.sub_self, List.drop_eq_getElem_cons hl, List.set_cons_zero, List.take_add_one, h]
  simp

set_option maxRecDepth 100000 in
set_option maxHeartbeats 1000000 in
theorem toIntS_any (zs : List Int) (p : Option Addr) (n c : Nat) (w : World) (hn : zs.length = n) (hnb : n ≤ 100000000) (hv : Vals w p (ints zs)) :
    Calls Try.prog 11 #[.slice p n c] w fun e w' => ∃ g, e = .returned (.slice (some ⟨g, 0, none⟩) n n) ∧ w'.ownsRow w.heap.size 3 1 (.slice (some ⟨g, 0, none⟩) n n) n (ints zs) ∧ Below w.heap.size w w' := by
  have HV := hid hv
  have HN := hid hn
  clear hv hn
  obtain ⟨i0, hi0, hz0, hz1, hz2⟩ := info_parts Try.infoInt
  go_enter Try.func11, Try.ntmps11
  go_wp2_with (at_make; refine wpList_make_full _ rfl _ _ 27 rfl w.heap.size 3 i0 _ 1 Try.underlying27 hi0 hz0 hz1 _ _ _ _ n rfl rfl rfl rfl (by rw [hz2]; omega) (by unfold maxLen; omega) (Nat.le_refl _) ?_; intro w1 hown1 hg1; have HO1 := hid hown1; have HG1 := hid hg1; clear hown1 hg1)
  obtain ⟨xs, hxs⟩ : ∃ xs, (madeCells (Value.int IntKind.i64 0).cells (n * 1)).toList = xs := ⟨_, rfl⟩
  rw [hxs] at HO1
  have hlen : xs.length = n := by have := HO1.out.1; omega
  have HB1 : Hid (Below w.heap.size w w1) := ⟨HG1.out.os, HG1.out.tape, HG1.out.output, HG1.out.size, fun k hk => HG1.out.block k hk (by simp)⟩
  have HLEN := hid hlen
  clear hxs hlen
  go_loopw [4] (fun u wr => ∃ i : Nat, i ≤ n ∧ u = .int .i64 (i : Int) ∧ wr.ownsRow w.heap.size 3 1 (.slice (some ⟨w.heap.size, 0, none⟩) n n) n ((ints zs).take i ++ xs.drop i) ∧ Below w.heap.size w wr) (fun u _ => n - (intOf u).toNat)
  case atStart => exact ⟨0, Nat.zero_le _, rfl, by simpa using HO1.out, HB1.out⟩
  case round =>
    obtain ⟨i, hi, rfl, hown, hbel⟩ := hrel
    have HO := hid hown
    by_cases hlt : i < n
    · obtain ⟨z, hz⟩ : ∃ z, zs[i]? = some z := ⟨_, List.getElem?_eq_getElem (by rw [HN.out]; exact hlt)⟩
      obtain ⟨b, o, rfl, hc⟩ := HV.out i _ (ints_get hz)
      have hc' := (hbel.cell (p := ⟨b, o + i, none⟩) (World.block_lt_of_cell? w _ hc)).trans hc
      have HS := hid (copy_set (ints zs) xs i _ (ints_get hz) (by rw [HLEN.out]; exact hlt))
      obtain ⟨x, hx⟩ : ∃ x, xs[i]? = some x := ⟨_, List.getElem?_eq_getElem (by rw [HLEN.out]; exact hlt)⟩
      have hcc := hown.cellAt i (by omega)
      have hff := hown.frozenAt i
      rw [List.getElem?_append_right (by rw [List.length_take]; exact Nat.min_le_left _ _), List.length_take, Nat.min_eq_left (by rw [ints_length, HN.out]; omega), Nat.sub_self, List.getElem?_drop, Nat.add_zero, hx] at hcc
      clear hown hc hz hx
      go_wp2_with fail
      go_roundw
      case rel =>
        refine ⟨i + 1, by omega, by go_num, ?_, hbel.setCell (Nat.le_refl _) _⟩
        rw [← HS.out]
        exact (HO.out.stored i _).1
      case measure => simp [intOf]; omega
    · have hin : i = n := by omega
      subst hin
      go_wp2_with fail
      go_ret
      refine ⟨_, rfl, ?_, hbel⟩
      have := HO.out
      rwa [List.drop_of_length_le (Nat.le_of_eq HLEN.out), List.append_nil, List.take_of_length_le (by rw [ints_length, HN.out]; exact Nat.le_refl _)] at this

set_option maxHeartbeats 1000000 in
theorem eqInts_same (xs : List Int) (p q : Option Addr) (n c d : Nat) (w : World) (hn : xs.length = n) (hnb : n ≤ 100000000) (hp : Vals w p (ints xs)) (hq : Vals w q (ints xs)) :
    Calls Try.prog 13 #[.slice p n c, .slice q n d] w fun e w' => e = .returned (.bool true) ∧ Below w.heap.size w w' := by
  have HP := hid hp
  have HQ := hid hq
  have HN := hid hn
  have hnn : ((n : Int) != (n : Int)) = false := by simp
  clear hp hq hn
  go_enter Try.func13, Try.ntmps13
  go_wp2_with fail
  go_loopw [5] (fun u wr => ∃ i : Nat, i ≤ n ∧ u = .int .i64 (i : Int) ∧ Below w.heap.size w wr) (fun u _ => n - (intOf u).toNat)
  case atStart => exact ⟨0, Nat.zero_le _, rfl, Below.refl _ _⟩
  case round =>
    obtain ⟨i, hi, rfl, hbel⟩ := hrel
    by_cases hlt : i < n
    · obtain ⟨x, hx⟩ : ∃ x, xs[i]? = some x := ⟨_, List.getElem?_eq_getElem (by rw [HN.out]; exact hlt)⟩
      obtain ⟨b, o, rfl, hc⟩ := HP.out i _ (ints_get hx)
      obtain ⟨b2, o2, rfl, hc2⟩ := HQ.out i _ (ints_get hx)
      have hc' := (hbel.cell (p := ⟨b, o + i, none⟩) (World.block_lt_of_cell? w _ hc)).trans hc
      have hc2' := (hbel.cell (p := ⟨b2, o2 + i, none⟩) (World.block_lt_of_cell? w _ hc2)).trans hc2
      have hxx : (x != x) = false := by simp
      clear hc hc2 hx
      go_wp2_with fail
      go_quiet (fail)
      go_wp2_with fail
      go_roundw
      case rel => exact ⟨i + 1, by omega, by go_num, below_drewN hbel _⟩
      case measure => simp [intOf]; omega
    · go_wp2_with fail
      go_ret
      exact ⟨rfl, hbel⟩
/-- A number out of its digits, the first one the least. -/
def hor (n : Nat) : List Nat → Nat
  | [] => 0
  | c :: l => c + n * hor n l
theorem hor_append (n : Nat) : ∀ a b : List Nat, hor n (a ++ b) = hor n a + n ^ a.length * hor n b
  | [], b => by simp [hor]
  | c :: a, b => by
    rw [List.cons_append, hor, hor, hor_append n a b, List.length_cons, Nat.pow_succ, Nat.mul_add, Nat.mul_comm (n ^ a.length) n, Nat.mul_assoc, Nat.add_assoc]
theorem hor_lt (n : Nat) (hn : 1 ≤ n) : ∀ l : List Nat, (∀ c ∈ l, c < n) → hor n l < n ^ l.length
  | [], _ => by simp [hor]
  | c :: l, h => by
    have h1 := hor_lt n hn l (fun d hd => h d (List.mem_cons_of_mem _ hd))
    have h2 := h c (List.mem_cons_self ..)
    rw [hor, List.length_cons, Nat.pow_succ, Nat.mul_comm (n ^ l.length) n]
    have h3 : n * (hor n l + 1) ≤ n * n ^ l.length := Nat.mul_le_mul_left n h1
    rw [Nat.mul_add] at h3
    omega
theorem pow_le (n a b : Nat) (hn : 1 ≤ n) (h : a ≤ b) : n ^ a ≤ n ^ b := Nat.pow_le_pow_right hn h
end Go.Proofs.Ytdeahcejbdcmpaa
