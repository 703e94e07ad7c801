/- Expressions without effects: isPure of the program. -/
import Derived.Test.YtinlibkkbjfmeaaDoorSxI
namespace Go.Proofs.YtinlibkkbjfmeaaDoor
open Go.RowKit

/-- Without effects. -/
def Sx.pure : Sx → Bool
  | .name _ => true
  | .bit _ => true
  | .lam _ _ e => e.pure
  | .app d e => d.pure && e.pure
  | .iff d e g => d.pure && (e.pure && g.pure)
  | .pair d e => d.pure && e.pure
  | .fst e => e.pure
  | .snd e => e.pure
  | .get => false
  | .put _ => false
  | .fail _ => false
theorem pure_kids (e : Sx) (h1 : (e.head.toList == [103, 101, 116]) = false) (h2 : (e.head.toList == [112, 117, 116]) = false) (h3 : (e.head.toList == [102, 97, 105, 108]) = false) : e.pure = e.kids.all Sx.pure := by
  cases e <;> simp_all [Sx.pure, Sx.kids, Sx.head, hGet_l, hPut_l, hFail_l]
theorem pure_get (e : Sx) (h : (e.head.toList == [103, 101, 116]) = true) : e.pure = false := by
  cases e <;> simp_all [Sx.pure, Sx.head, hName_l, hBit_l, hLam_l, hApp_l, hIf_l, hPair_l, hFst_l, hSnd_l, hGet_l, hPut_l, hFail_l]
theorem pure_put (e : Sx) (h : (e.head.toList == [112, 117, 116]) = true) : e.pure = false := by
  cases e <;> simp_all [Sx.pure, Sx.head, hName_l, hBit_l, hLam_l, hApp_l, hIf_l, hPair_l, hFst_l, hSnd_l, hGet_l, hPut_l, hFail_l]
theorem pure_fail (e : Sx) (h : (e.head.toList == [102, 97, 105, 108]) = true) : e.pure = false := by
  cases e <;> simp_all [Sx.pure, Sx.head, hName_l, hBit_l, hLam_l, hApp_l, hIf_l, hPair_l, hFst_l, hSnd_l, hGet_l, hPut_l, hFail_l]
theorem kids_3 (e : Sx) : e.kids.length ≤ 3 := by cases e <;> simp [Sx.kids]

set_option maxRecDepth 100000 in
set_option maxHeartbeats 2000000 in
theorem isPure_any {w0 : World} {S : Nat → Prop} {e : Sx} {b : Nat} (h : XIn w0 S e b) : ∀ w, Kept w0 w → Calls Tryd.prog 25 #[.pointer (some ⟨b, 0, none⟩)] w fun r w' => r = .returned (.bool e.pure) ∧ w = w' := by
  induction h with
  | mk e b tp kp kl kc A hS hb hty hkl hkc hkv hks ih =>
    intro w hk
    obtain ⟨tq, rfl⟩ := hty.one
    have hb' := (hk b (lt_of_block hb)).trans hb
    have k0 := cells_of_5 hb'
    have HG := hid (pure_get e)
    have HP := hid (pure_put e)
    have HF := hid (pure_fail e)
    have HA := hid (pure_kids e)
    have hkl3 : kl ≤ 3 := by have := kids_3 e; omega
    obtain ⟨P, hP⟩ : ∃ P, e.pure = P := ⟨_, rfl⟩
    rw [hP] at HG HP HF HA ⊢
    obtain ⟨hd, hhd⟩ : ∃ hd, e.head = hd := ⟨_, rfl⟩
    rw [hhd] at HG HP HF HA k0
    have HKL := hid hkl
    have HRV := hid (fun i v (hv : (ptrs A kl)[i]? = some v) => (show ∃ g, kp = some ⟨g, 0, none⟩ ∧ w.cell? ⟨g, i, none⟩ = some v from let ⟨g, hp, _, hc⟩ := hkv i v hv; ⟨g, hp, hk.cell hc⟩))
    have HIH := hid (fun i k hik => ih i k hik w hk)
    clear hb hb' hty hkl hkv hks ih hk hP hhd
    cases e1 : hd.toList == [103, 101, 116] with
    | true =>
      have HR := hid (HG.out e1)
      go_enter Tryd.func25, Tryd.ntmps25
      go_wp2_with fail
      go_ret
      exact ⟨ret_bool HR.out.symm, rfl⟩
    | false =>
      cases e2 : hd.toList == [112, 117, 116] with
      | true =>
        have HR := hid (HP.out e2)
        go_enter Tryd.func25, Tryd.ntmps25
        go_wp2_with fail
        go_ret
        exact ⟨ret_bool HR.out.symm, rfl⟩
      | false =>
        cases e3 : hd.toList == [102, 97, 105, 108] with
        | true =>
          have HR := hid (HF.out e3)
          go_enter Tryd.func25, Tryd.ntmps25
          go_wp2_with fail
          go_ret
          exact ⟨ret_bool HR.out.symm, rfl⟩
        | false =>
          have HR := hid (HA.out e1 e2 e3)
          clear HA HG HP HF
          go_enter Tryd.func25, Tryd.ntmps25
          go_wp2_with fail
          go_loop [18] (fun u => ∃ i : Nat, i ≤ kl ∧ u = .int .i64 (i : Int) ∧ Hid (P = (e.kids.drop i).all Sx.pure)) (fun u => kl - (intOf u).toNat)
          case atStart => exact ⟨0, Nat.zero_le _, rfl, by show _ = _; rw [List.drop_zero]; exact HR.out⟩
          case round =>
            obtain ⟨i, hi, rfl, hq⟩ := hrel
            by_cases hlt : i < kl
            · obtain ⟨k, hik⟩ : ∃ k, e.kids[i]? = some k := ⟨_, List.getElem?_eq_getElem (by rw [HKL.out]; exact hlt)⟩
              obtain ⟨g, rfl, hc⟩ := HRV.out i _ (ptrs_get A hlt)
              have HC := hid (HIH.out i k hik)
              have hst : P = (k.pure && (e.kids.drop (i + 1)).all Sx.pure) := by rw [hq.out, drop_at hik, List.all_cons]
              obtain ⟨B, hB⟩ : ∃ B, k.pure = B := ⟨_, rfl⟩
              rw [hB] at HC hst
              have HST := hid hst
              clear hst hik hq hB
              cases B with
              | false =>
                go_wp2_with (go_at_call 25; refine HC.out.mono ?_; rintro r w2 ⟨rfl, rfl⟩)
                go_ret
                exact ⟨ret_bool (by rw [HST.out]; rfl), rfl⟩
              | true =>
                go_wp2_with (go_at_call 25; refine HC.out.mono ?_; rintro r w2 ⟨rfl, rfl⟩)
                go_round
                case rel => exact ⟨i + 1, by omega, by go_num, by show _ = _; rw [HST.out, Bool.true_and]⟩
                case measure => simp [intOf]; omega
            · have hpt : P = true := by rw [hq.out, List.drop_of_length_le (by rw [HKL.out]; omega)]; rfl
              have HPT := hid hpt
              clear hq hpt
              go_wp2_with fail
              go_ret
              exact ⟨ret_bool HPT.out.symm, rfl⟩
end Go.Proofs.YtinlibkkbjfmeaaDoor
