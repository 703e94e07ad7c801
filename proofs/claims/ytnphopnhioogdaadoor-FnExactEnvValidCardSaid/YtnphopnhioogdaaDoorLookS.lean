/- The model's l3Look. -/
import Derived.Test.YtnphopnhioogdaaDoorNamesS
import Derived.Test.YtnphopnhioogdaaDoorValsP
namespace Go.Proofs.YtnphopnhioogdaaDoor
open Go.RowKit

/-- The text of the last type of a name among the first ones. -/
def l3 (s : List UInt8) (ns ts : List ByteArray) : Nat → ByteArray
  | 0 => ByteArray.empty
  | i + 1 => match ns[i]?, ts[i]? with
    | some n, some t => if n.toList = s then t else l3 s ns ts i
    | _, _ => l3 s ns ts i
theorem l3_step {s : List UInt8} {ns ts : List ByteArray} {i : Nat} {n t : ByteArray} (hn : ns[i]? = some n) (ht : ts[i]? = some t) : l3 s ns ts (i + 1) = if n.toList = s then t else l3 s ns ts i := by
  rw [l3, hn, ht]
set_option maxRecDepth 100000 in
set_option maxHeartbeats 1000000 in
theorem l3Look_any (s : ByteArray) (ns ts : List ByteArray) (p q : Option Addr) (n c d : Nat) (w : World) (hn : ns.length = n) (hm : ts.length = n) (hnb : n ≤ 400000000) (hp : Vals w p (ns.map Value.string)) (hq : Vals w q (ts.map Value.string)) :
    Calls Tryd.prog 54 #[.slice p n c, .slice q n d, .string s] w fun e w' => e = .returned (.string (l3 s.toList ns ts n)) ∧ w = w' := by
  have HN := hid hn
  have HM := hid hm
  have HP := hid hp
  have HQ := hid hq
  obtain ⟨R, hR⟩ : ∃ R, l3 s.toList ns ts n = R := ⟨_, rfl⟩
  rw [hR]
  have HR := hid hR
  clear hn hm hp hq hR
  go_enter Tryd.func54, Tryd.ntmps54
  go_wp2_with fail
  go_loop [7] (fun u => ∃ i : Nat, i ≤ n ∧ u = .int .i64 ((i : Int) - 1) ∧ Hid (l3 s.toList ns ts i = R)) (fun u => (intOf u + 1).toNat)
  case atStart => exact ⟨n, Nat.le_refl _, by go_num, HR⟩
  case round =>
    obtain ⟨i, hi, rfl, hL⟩ := hrel
    cases i with
    | zero =>
      have HE := hid (show R = ByteArray.empty by rw [← hL.out]; rfl)
      clear hL
      go_wp2_with fail
      go_ret
      exact ⟨ret_str HE.out.symm, rfl⟩
    | succ k =>
      have hk1 : ((k + 1 : Nat) : Int) - 1 = (k : Int) := by omega
      rw [hk1]
      obtain ⟨x, hx⟩ : ∃ x, ns[k]? = some x := ⟨_, List.getElem?_eq_getElem (by rw [HN.out]; omega)⟩
      obtain ⟨y, hy⟩ : ∃ y, ts[k]? = some y := ⟨_, List.getElem?_eq_getElem (by rw [HM.out]; omega)⟩
      obtain ⟨b1, o1, rfl, hc1⟩ := HP.out k _ (show (ns.map Value.string)[k]? = some (.string x) by simp [hx])
      obtain ⟨b2, o2, rfl, hc2⟩ := HQ.out k _ (show (ts.map Value.string)[k]? = some (.string y) by simp [hy])
      have hst := l3_step (s := s.toList) hx hy
      have hlt : k < n := by omega
      clear hk1 hx hy
      cases he : x.toList == s.toList with
      | true =>
        have HE := hid (show R = y by rw [← hL.out, hst, if_pos (by simpa using he)])
        clear hst hL
        go_wp2_with fail
        go_ret
        exact ⟨ret_str HE.out.symm, rfl⟩
      | false =>
        have HL2 := hid (show l3 s.toList ns ts k = R by rw [← hL.out, hst, if_neg (by simpa using he)])
        clear hst hL
        go_wp2_with fail
        go_round
        case rel => exact ⟨k, by omega, by go_num, HL2⟩
        case measure => simp [intOf]
end Go.Proofs.YtnphopnhioogdaaDoor
