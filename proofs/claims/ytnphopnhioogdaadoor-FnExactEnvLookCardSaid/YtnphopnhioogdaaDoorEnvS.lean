/- Environments by the model: EnvValid, l3Look. -/
import Derived.Test.YtnphopnhioogdaaDoorEnvP
import Derived.Test.YtnphopnhioogdaaDoorLookS
import Derived.Test.YtnphopnhioogdaaDoorKindS
import Derived.Test.YtnphopnhioogdaaDoorTexts
import Derived.Test.YtnphopnhioogdaaDoorKidsP
namespace Go.Proofs.YtnphopnhioogdaaDoor
open Go.RowKit

/-- Is a text a value type? -/
def isV (s : ByteArray) : Bool := match readTy s with
  | some t => t.isVal
  | none => false
def nmB (s : ByteArray) : Bool := nameB s.toList
/-- Are two lists an environment? -/
def validB (ns ts : List ByteArray) : Bool := ns.all nmB && (ts.all isV && (decide (ns.length = ts.length) && decide (ns.length ≤ 8)))
theorem all_step {α : Type} {f : α → Bool} {l : List α} {i : Nat} {x : α} (h : l[i]? = some x) : (l.drop i).all f = (f x && (l.drop (i + 1)).all f) := by rw [drop_at h, List.all_cons]
theorem envL_some : ∀ (ns ts : List ByteArray), ns.length = ts.length → (envL ns ts).isSome = (ns.all nmB && ts.all isV)
  | [], [], _ => rfl
  | [], _ :: _, h => by simp at h
  | _ :: _, [], h => by simp at h
  | n :: ns, t :: ts, h => by
    have ih := envL_some ns ts (by simpa using h)
    rw [envL, List.all_cons, List.all_cons]
    cases hr : readTy t with
    | none => simp [isV, hr]
    | some ty =>
      have hi : isV t = ty.isVal := by simp [isV, hr]
      rw [hi, nmB]
      cases hv : ty.isVal <;> cases hn : nameB n.toList <;> simp [ih, hv]
theorem validB_env (ns ts : List ByteArray) : (envOf ns ts).isSome = validB ns ts := by
  unfold envOf validB
  by_cases h : ns.length = ts.length ∧ ns.length ≤ 8
  · rw [if_pos h, envL_some ns ts h.1, decide_eq_true h.1, decide_eq_true h.2]; simp
  · rw [if_neg h]
    have : (decide (ns.length = ts.length) && decide (ns.length ≤ 8)) = false := by
      rw [Bool.eq_false_iff]; intro e; simp at e; exact h e
    rw [this]; simp
theorem kind_isV (y : ByteArray) : ((kindOf (readTy y)).toList == [118, 97, 108, 117, 101]) = isV y := by
  unfold isV
  cases hr : readTy y with
  | none => rw [kindOf, empty_toList]; rfl
  | some t =>
    rw [kindOf, Ty.kindS]
    cases hv : t.isVal with
    | true => rw [if_pos rfl, strV_toList]; show (lV == [118, 97, 108, 117, 101]) = t.isVal; rw [hv]; rfl
    | false => rw [if_neg (by simp), strC_toList]; show (lC == [118, 97, 108, 117, 101]) = t.isVal; rw [hv]; rfl

set_option maxRecDepth 100000 in
set_option maxHeartbeats 2000000 in
theorem specEnvValid_any (ns ts : List ByteArray) (p q : Option Addr) (n m c d : Nat) (w : World) (hn : ns.length = n) (hm : ts.length = m) (hnb : n ≤ 400000000) (hmb : m ≤ 400000000) (hp : Vals w p (ns.map Value.string)) (hq : Vals w q (ts.map Value.string)) (hns : ∀ s ∈ ns, s.size ≤ 400000000) (hts : ∀ s ∈ ts, s.size ≤ 400000000) :
    Calls Tryd.prog 14 #[.slice p n c, .slice q m d] w fun e w' => e = .returned (.bool (validB ns ts)) ∧ Below w.heap.size w w' := by
  have HN := hid hn
  have HM := hid hm
  have HP := hid hp
  have HQ := hid hq
  have HNS := hid hns
  have HTS := hid hts
  have HV := hid (show validB ns ts = (ns.all nmB && (ts.all isV && (decide (n = m) && decide (n ≤ 8)))) by rw [validB, hn, hm])
  clear hn hm hp hq hns hts
  go_enter Tryd.func14, Tryd.ntmps14
  go_wp2_with fail
  go_loop [5] (fun u => ∃ i : Nat, i ≤ n ∧ u = .int .i64 (i : Int) ∧ Hid (ns.all nmB = (ns.drop i).all nmB)) (fun u => n - (intOf u).toNat)
  case atStart => exact ⟨0, Nat.zero_le _, rfl, hid (by simp)⟩
  case round =>
    obtain ⟨i, hi, rfl, hL⟩ := hrel
    by_cases hlt : i < n
    · obtain ⟨x, hx⟩ : ∃ x, ns[i]? = some x := ⟨_, List.getElem?_eq_getElem (by rw [HN.out]; exact hlt)⟩
      obtain ⟨b1, o1, rfl, hc1⟩ := HP.out i _ (strs_get hx)
      have hxs := HNS.out x (List.mem_of_getElem? hx)
      have HNM := hid (fun W => l2Name_any x hxs W)
      have hst := all_step (f := nmB) hx
      rw [nmB] at hst
      cases hnb2 : nameB x.toList with
      | false =>
        rw [hnb2] at HNM hst
        have HR := hid (show validB ns ts = false by rw [HV.out, hL.out, hst]; rfl)
        clear hst hL hx hnb2
        go_wp2_with (go_at_call 37; refine (HNM.out _).mono ?_; rintro e w3 ⟨rfl, rfl⟩)
        go_ret
        exact ⟨ret_bool HR.out.symm, Below.refl _ _⟩
      | true =>
        rw [hnb2, Bool.true_and] at hst
        rw [hnb2] at HNM
        have HL2 := hid (hL.out.trans hst)
        clear hst hL hx hnb2
        go_wp2_with (go_at_call 37; refine (HNM.out _).mono ?_; rintro e w3 ⟨rfl, rfl⟩)
        go_round
        case rel => exact ⟨i + 1, by omega, by go_num, HL2⟩
        case measure => simp [intOf]; omega
    · have HL2 := hid (show ns.all nmB = true by rw [hL.out, List.drop_of_length_le (by rw [HN.out]; omega)]; rfl)
      clear hL
      go_wp2_with fail
      go_loopw [6] (fun u wr => ∃ j : Nat, j ≤ m ∧ u = .int .i64 (j : Int) ∧ Below w.heap.size w wr ∧ Hid (ts.all isV = (ts.drop j).all isV)) (fun u _ => m - (intOf u).toNat)
      case atStart => exact ⟨0, Nat.zero_le _, rfl, Below.refl _ _, hid (by simp)⟩
      case round =>
        obtain ⟨j, hj, rfl, hbel, hL⟩ := hrel
        have hz := hbel.size
        by_cases hlt2 : j < m
        · obtain ⟨y, hy⟩ : ∃ y, ts[j]? = some y := ⟨_, List.getElem?_eq_getElem (by rw [HM.out]; exact hlt2)⟩
          obtain ⟨b2, o2, rfl, hc2⟩ := HQ.out j _ (strs_get hy)
          have e2 := (hbel.cell (p := ⟨b2, o2 + j, none⟩) (World.block_lt_of_cell? w _ hc2)).trans hc2
          have hys := HTS.out y (List.mem_of_getElem? hy)
          have HTK := hid (fun W => specTypeKind_any y hys W)
          have hst := all_step (f := isV) hy
          have hkd := kind_isV y
          obtain ⟨K, hK⟩ : ∃ K, kindOf (readTy y) = K := ⟨_, rfl⟩
          rw [hK] at HTK hkd
          cases hv : isV y with
          | false =>
            rw [hv] at hst hkd
            have HR := hid (show validB ns ts = false by rw [HV.out, HL2.out, hL.out, hst]; rfl)
            clear hst hL hy hK hv hc2
            go_wp2_with (go_at_call 38; refine (HTK.out _).mono ?_; rintro e w3 ⟨rfl, hb3⟩)
            go_ret
            exact ⟨ret_bool HR.out.symm, hbel.trans (hb3.mono hz)⟩
          | true =>
            rw [hv] at hst hkd
            rw [Bool.true_and] at hst
            have HL3 := hid (hL.out.trans hst)
            clear hst hL hy hK hv hc2
            go_wp2_with (go_at_call 38; refine (HTK.out _).mono ?_; rintro e w3 ⟨rfl, hb3⟩)
            go_roundw
            case rel => exact ⟨j + 1, by omega, by go_num, hbel.trans (hb3.mono hz), HL3⟩
            case measure => simp [intOf]; omega
        · have HL3 := hid (show ts.all isV = true by rw [hL.out, List.drop_of_length_le (by rw [HM.out]; omega)]; rfl)
          clear hL
          by_cases hnm : n = m
          · subst hnm
            have hne : ((n : Int) == (n : Int)) = true := by simp
            by_cases h8 : n ≤ 8
            · have HR := hid (show validB ns ts = true by rw [HV.out, HL2.out, HL3.out, decide_eq_true rfl, decide_eq_true h8]; rfl)
              go_wp2_with fail
              go_ret
              exact ⟨ret_bool (by rw [HR.out]; simp; omega), hbel⟩
            · have HR := hid (show validB ns ts = false by rw [HV.out, HL2.out, HL3.out, decide_eq_true rfl, decide_eq_false h8]; rfl)
              have h9 : 8 < n := by omega
              clear h8
              go_wp2_with fail
              go_ret
              exact ⟨ret_bool (by rw [HR.out]; simp; omega), hbel⟩
          · have HR := hid (show validB ns ts = false by rw [HV.out, HL2.out, HL3.out, decide_eq_false hnm]; rfl)
            have hne : ((n : Int) == (m : Int)) = false := by simp; omega
            clear hnm
            go_wp2_with fail
            go_ret
            exact ⟨ret_bool HR.out.symm, hbel⟩

end Go.Proofs.YtnphopnhioogdaaDoor
