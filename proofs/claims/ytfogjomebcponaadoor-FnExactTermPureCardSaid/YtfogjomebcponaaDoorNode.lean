/- sort, depthOf of the program. -/
import Derived.Test.YtfogjomebcponaaDoorNodeP
import Derived.Test.YtfogjomebcponaaDoorConcat
namespace Go.Proofs.YtfogjomebcponaaDoor
open Go.RowKit

set_option maxRecDepth 100000 in
set_option maxHeartbeats 1000000 in
theorem depthOf_any (s : ByteArray) (ar : List ByteArray) (p : Option Addr) (n c : Nat) (w : World) (hv : SV w p n c ar) (hn : n ≤ 100000) :
    Calls Tryd.prog 61 #[.string s, .slice p n c] w fun e w' => e = .returned (.int .i64 (depthIn s.toList ar)) ∧ w = w' := by
  have HV := hid hv
  have hl := hv.1
  have HL := hid hl
  clear hv hl
  go_enter Tryd.func61, Tryd.ntmps61
  go_wp2_with fail
  go_loop [8] (fun u => ∃ i : Nat, i ≤ n ∧ u = .int .i64 (i : Int) ∧ Hid (depthIn s.toList ar = depthR s.toList (ar.reverse.drop i) i)) (fun u => n - (intOf u).toNat)
  case atStart => exact ⟨0, Nat.zero_le _, rfl, by show _ = _; rw [List.drop_zero]; rfl⟩
  case round =>
    obtain ⟨i, hi, rfl, hd⟩ := hrel
    by_cases hlt : i < n
    · have hj : n - 1 - i < ar.length := by rw [HL.out]; omega
      obtain ⟨x, hx⟩ : ∃ x, ar[n - 1 - i]? = some x := ⟨_, List.getElem?_eq_getElem hj⟩
      obtain ⟨g, rfl, hc⟩ := HV.out.2.2 _ x hx
      have hjj : (n : Int) - 1 - (i : Int) = ((n - 1 - i : Nat) : Int) := by omega
      have hrev : ar.reverse.drop i = x :: ar.reverse.drop (i + 1) := by
        have hil : i < ar.reverse.length := by rw [List.length_reverse, HL.out]; exact hlt
        rw [List.drop_eq_getElem_cons hil, List.getElem_reverse]
        congr 1
        rw [List.getElem?_eq_getElem hj] at hx
        have : ar.length - 1 - i = n - 1 - i := by rw [HL.out]
        simp only [this]; exact Option.some.inj hx
      have hdn := hd.out
      rw [hrev, depthR] at hdn
      have HD := hid hdn
      obtain ⟨j, hjd⟩ : ∃ j, n - 1 - i = j := ⟨_, rfl⟩
      rw [hjd] at hjj hc
      have hj0 : (0 : Int) ≤ (j : Int) := by omega
      have hj1 : (j : Int) < (n : Int) := by omega
      clear hx hrev hdn hd hj
      cases hq : x.toList == s.toList with
      | true =>
        have HQ := hid (show x.toList = s.toList by simpa using hq)
        go_wp2_with fail
        go_ret
        exact ⟨ret_int (by rw [HD.out, if_pos HQ.out]), rfl⟩
      | false =>
        have HQ := hid (show ¬ x.toList = s.toList by simpa using hq)
        go_wp2_with fail
        go_round
        case rel => exact ⟨i + 1, by omega, by go_num, by show _ = _; rw [HD.out, if_neg HQ.out]⟩
        case measure => simp [intOf]; omega
    · have hin : i = n := by omega
      have HE := hid (show depthIn s.toList ar = -1 by rw [hd.out, hin, List.drop_of_length_le (by rw [List.length_reverse, HL.out]; exact Nat.le_refl _)]; rfl)
      clear hin hd
      go_wp2_with fail
      go_ret
      exact ⟨ret_int HE.out.symm, rfl⟩

/-- A head's sort. -/
def sortS (hd : ByteArray) : ByteArray := if isValHead hd.toList = true then strV else strC
set_option maxRecDepth 100000 in
set_option maxHeartbeats 1000000 in
theorem sort_any (hd : ByteArray) (b : Nat) (w : World) (hc : w.cell? ⟨b, 0, none⟩ = some (.string hd)) :
    Calls Tryd.prog 73 #[.pointer (some ⟨b, 0, none⟩)] w fun e w' => e = .returned (.string (sortS hd)) ∧ w = w' := by
  cases e0 : hd.toList == [110, 97, 109, 101] with
  | true =>
    have hq := hid (show isValHead hd.toList = true by rw [eq_t e0]; rfl)
    go_enter Tryd.func73, Tryd.ntmps73
    go_wp2
    go_ret
    exact ⟨ret_str (by rw [sortS, if_pos hq.out]; rfl), rfl⟩
  | false =>
    cases e1 : hd.toList == [98, 105, 116] with
    | true =>
      have hq := hid (show isValHead hd.toList = true by rw [eq_t e1]; rfl)
      go_enter Tryd.func73, Tryd.ntmps73
      go_wp2
      go_ret
      exact ⟨ret_str (by rw [sortS, if_pos hq.out]; rfl), rfl⟩
    | false =>
      cases e2 : hd.toList == [112, 97, 105, 114] with
      | true =>
        have hq := hid (show isValHead hd.toList = true by rw [eq_t e2]; rfl)
        go_enter Tryd.func73, Tryd.ntmps73
        go_wp2
        go_ret
        exact ⟨ret_str (by rw [sortS, if_pos hq.out]; rfl), rfl⟩
      | false =>
        cases e3 : hd.toList == [116, 104, 117, 110, 107] with
        | true =>
          have hq := hid (show isValHead hd.toList = true by rw [eq_t e3]; rfl)
          go_enter Tryd.func73, Tryd.ntmps73
          go_wp2
          go_ret
          exact ⟨ret_str (by rw [sortS, if_pos hq.out]; rfl), rfl⟩
        | false =>
          have hq := hid (show ¬ isValHead hd.toList = true by
            unfold isValHead
            simp only [beq_eq_false_iff_ne, ne_eq] at e0 e1 e2 e3
            simp [e0, e1, e2, e3])
          go_enter Tryd.func73, Tryd.ntmps73
          go_wp2
          go_ret
          exact ⟨ret_str (by rw [sortS, if_neg hq.out]; rfl), rfl⟩
end Go.Proofs.YtfogjomebcponaaDoor
