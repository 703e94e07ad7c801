/- The model compares two lists of kinds: l1If. -/
import Derived.Test.YtfogjomebcponaaDoorSpecA
namespace Go.Proofs.YtfogjomebcponaaDoor
open Go.RowKit

set_option maxRecDepth 100000 in
set_option maxHeartbeats 1000000 in
theorem l1If_eq (w : World) (a b : List ByteArray) (kind : ByteArray) (p q : Option Addr) (ca cb : Nat) (ha : Strs w p a) (hb : Strs w q b) (n : Nat) (hla : Hid (a.length = n)) (hlb : Hid (b.length = n)) (hn : n ≤ 100000) :
    Calls Tryd.prog 33 #[.slice p n ca, .slice q n cb, .string kind] w fun e w' => e = .returned (.string (l1IfP a b kind)) ∧ Below w.heap.size w w' := by
  have d0 : ((n : Int) != (n : Int)) = false := by simp
  go_enter Tryd.func33, Tryd.ntmps33
  go_wp2_with fail
  go_loopw [7] (fun v wr => ∃ i : Nat, i ≤ n ∧ v = .int .i64 (i : Int) ∧ Hid ((a.take i).map (·.toList) = (b.take i).map (·.toList)) ∧ Below w.heap.size w wr) (fun v _ => n - (intOf v).toNat)
  case atStart => exact ⟨0, Nat.zero_le _, rfl, rfl, Below.refl _ _⟩
  case round =>
    obtain ⟨i, hi, rfl, htk, hbel⟩ := hrel
    by_cases hlt : i < n
    · obtain ⟨x, hx⟩ : ∃ x, a[i]? = some x := ⟨_, List.getElem?_eq_getElem (by rw [hla.out]; exact hlt)⟩
      obtain ⟨y, hy⟩ : ∃ y, b[i]? = some y := ⟨_, List.getElem?_eq_getElem (by rw [hlb.out]; exact hlt)⟩
      obtain ⟨b0, o0, rfl, hc0⟩ := ha i x hx
      obtain ⟨b1, o1, rfl, hc1⟩ := hb i y hy
      have k0 := (hbel.cell (p := ⟨b0, o0 + i, none⟩) (World.block_lt_of_cell? w _ hc0)).trans hc0
      have k1 := (hbel.cell (p := ⟨b1, o1 + i, none⟩) (World.block_lt_of_cell? w _ hc1)).trans hc1
      have HX := hid hx
      have HY := hid hy
      clear hx hy ha hb hc0 hc1
      have j0 : (0 : Int) ≤ (i : Int) := by omega
      have j1 : (i : Int) < (n : Int) := by omega
      go_wp2_with fail
      go_quiet (fail)
      go_wp2_with fail
      · have hne : (!x.toList == y.toList) = true := by assumption
        go_ret
        refine ⟨ret_str ?_, below_drewN hbel _⟩
        rw [l1IfP, if_neg ?_]
        · rfl
        · intro e
          have e1 := congrArg (fun l => l[i]?) e
          simp only [List.getElem?_map, HX.out, HY.out, Option.map_some, Option.some.injEq] at e1
          simp [e1] at hne
      · have hne : (!x.toList == y.toList) = false := by assumption
        have he : x.toList = y.toList := by simpa using hne
        go_roundw
        case rel =>
          refine ⟨i + 1, by omega, by go_num, ?_, below_drewN hbel _⟩
          have := htk.out
          show _ = _
          rw [List.take_add_one, List.take_add_one, HX.out, HY.out, List.map_append, List.map_append, this]; simp [he]
        case measure => simp [intOf]; omega
    · have hin : i = n := by omega
      have HI := hid hin
      clear hin ha hb
      go_wp2_with fail
      go_ret
      refine ⟨ret_str ?_, hbel⟩
      have := htk.out
      rw [HI.out, List.take_of_length_le (Nat.le_of_eq hla.out), List.take_of_length_le (Nat.le_of_eq hlb.out)] at this
      rw [l1IfP, if_pos this]

theorem l1If_any (w : World) (a b : List ByteArray) (kind : ByteArray) (p q : Option Addr) (ca cb : Nat) (ha : Strs w p a) (hb : Strs w q b) (hlb : b.length ≤ 100000) :
    Calls Tryd.prog 33 #[.slice p a.length ca, .slice q b.length cb, .string kind] w fun e w' => e = .returned (.string (l1IfP a b kind)) ∧ Below w.heap.size w w' := by
  by_cases hab : a.length = b.length
  · have := l1If_eq w a b kind p q ca cb ha hb b.length hab rfl hlb
    rw [← hab] at this ⊢; exact this
  · have hne : l1IfP a b kind = ByteArray.empty := by
      rw [l1IfP, if_neg]; intro e; exact hab (by simpa using congrArg List.length e)
    rw [hne]
    have d0 : ((a.length : Int) != (b.length : Int)) = true := by simp; omega
    clear hne ha hb
    go_enter Tryd.func33, Tryd.ntmps33
    go_wp2_with fail
    go_ret
    exact ⟨rfl, Below.refl _ _⟩

theorem l1If_n (w : World) (a b : List ByteArray) (kind : ByteArray) (p q : Option Addr) (na nb ca cb : Nat) (ha : Strs w p a) (hb : Strs w q b) (hna : a.length = na) (hnb : b.length = nb) (hlb : nb ≤ 100000) :
    Calls Tryd.prog 33 #[.slice p na ca, .slice q nb cb, .string kind] w fun e w' => e = .returned (.string (l1IfP a b kind)) ∧ Below w.heap.size w w' := by
  subst hna; subst hnb; exact l1If_any w a b kind p q ca cb ha hb hlb

end Go.Proofs.YtfogjomebcponaaDoor
