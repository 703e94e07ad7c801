/- The model asks whether a text is in a list: l2Has. -/
import Derived.Test.YtfogjomebcponaaDoorNameP
import Derived.Test.YtfogjomebcponaaDoorConcatP
import Derived.Test.YtfogjomebcponaaDoorNodeR
import Derived.Test.YtfogjomebcponaaDoorSpecA
namespace Go.Proofs.YtfogjomebcponaaDoor
open Go.RowKit

set_option maxRecDepth 100000 in
set_option maxHeartbeats 1000000 in
theorem l2Has_any (s : ByteArray) (l : List ByteArray) (p : Option Addr) (n c : Nat) (w : World) (hv : SV w p n c l) (hn : n ≤ 100000) :
    Calls Tryd.prog 28 #[.slice p n c, .string s] w fun e w' => e = .returned (.bool (hasB l s.toList)) ∧ w = w' := by
  have HV := hid hv
  have HL := hid hv.1
  clear hv
  go_enter Tryd.func28, Tryd.ntmps28
  go_wp2_with fail
  go_loop [5] (fun u => ∃ i : Nat, i ≤ n ∧ u = .int .i64 (i : Int) ∧ Hid (hasB l s.toList = hasB (l.drop i) s.toList)) (fun u => n - (intOf u).toNat)
  case atStart => exact ⟨0, Nat.zero_le _, rfl, by show _ = _; rw [List.drop_zero]⟩
  case round =>
    obtain ⟨i, hi, rfl, hd⟩ := hrel
    by_cases hlt : i < n
    · obtain ⟨x, hx⟩ : ∃ x, l[i]? = some x := ⟨_, List.getElem?_eq_getElem (by rw [HL.out]; exact hlt)⟩
      obtain ⟨g, rfl, hc⟩ := HV.out.2.2 i x hx
      have hs : hasB l s.toList = (x.toList == s.toList || hasB (l.drop (i + 1)) s.toList) := by rw [hd.out, drop_at hx, hasB_cons]
      cases hq : x.toList == s.toList with
      | true =>
        rw [hq, Bool.true_or] at hs
        have HS := hid hs
        clear hs hd hx
        go_wp2_with fail
        go_ret
        exact ⟨ret_bool HS.out.symm, rfl⟩
      | false =>
        rw [hq, Bool.false_or] at hs
        have HS := hid hs
        clear hs hd hx
        go_wp2_with fail
        go_round
        case rel => exact ⟨i + 1, by omega, by go_num, HS⟩
        case measure => simp [intOf]; omega
    · have hs : hasB l s.toList = false := by rw [hd.out, List.drop_of_length_le (by rw [HL.out]; omega)]; rfl
      have HS := hid hs
      clear hs hd
      go_wp2_with fail
      go_ret
      exact ⟨ret_bool HS.out.symm, rfl⟩

/-- What a function leaves that returns a list of texts of its own. -/
def OwnS (l : List ByteArray) (w : World) (e : Ending) (w' : World) : Prop :=
  ∃ q c, e = .returned (.slice q l.length c) ∧ w'.ownsRow w.heap.size 9 1 (.slice q l.length c) l.length (l.map Value.string) ∧ Below w.heap.size w w'
theorem own_empty (w : World) (base : Nat) (hb : base ≤ w.heap.size) : (w.alloc (.cells #[] 9)).ownsRow base 9 1 (.slice (some ⟨w.heap.size, 0, none⟩) 0 0) 0 [] := by
  have := World.ownsRow_made (w := w) (base := base) (e := 9) (size := 1) #[] 0 hb (by simp) (by simp)
  simpa using this

theorem OwnS.sv {l : List ByteArray} {w w' : World} {e : Ending} (h : OwnS l w e w') : ∃ q c, e = .returned (.slice q l.length c) ∧ SV w' q l.length c l ∧ Below w.heap.size w w' :=
  let ⟨q, c, he, ho, hb⟩ := h; ⟨q, c, he, sv_own ho, hb⟩
theorem OwnS.full {l : List ByteArray} {w w' : World} {e : Ending} (h : OwnS l w e w') : ∃ q c, e = .returned (.slice q l.length c) ∧ SV w' q l.length c l ∧ (∀ g o, q = some ⟨g, o, none⟩ → w.heap.size ≤ g ∧ g < w'.heap.size) ∧ Below w.heap.size w w' :=
  let ⟨q, c, he, ho, hb⟩ := h; ⟨q, c, he, sv_own ho, own_lt ho, hb⟩
end Go.Proofs.YtfogjomebcponaaDoor
