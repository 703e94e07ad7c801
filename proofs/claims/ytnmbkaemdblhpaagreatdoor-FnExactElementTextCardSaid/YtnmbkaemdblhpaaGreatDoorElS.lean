/- ElementText by the model. -/
import Derived.Test.YtnmbkaemdblhpaaGreatDoorElP
import Derived.Test.YtnmbkaemdblhpaaGreatDoorValS
import Derived.Test.YtnmbkaemdblhpaaGreatDoorKindS
import Derived.Test.YtnmbkaemdblhpaaGreatDoorCountS
import Derived.Test.YtnmbkaemdblhpaaGreatDoorInS
namespace Go.Proofs.YtnmbkaemdblhpaaGreatDoor
open Go.RowKit

set_option maxRecDepth 100000 in
set_option maxHeartbeats 1000000 in
theorem l5Tree_some (s : ByteArray) (hs : s.size ≤ 400000000) (t : Tree) (ht : typeTree s = some t) (w : World) : Calls Tryz.prog 11 #[.string s] w fun e w' => (∃ h : Hd, e = .returned (.agg #[.string h.a, .slice h.p h.l h.c]) ∧ TIn w' (fun b => w.heap.size ≤ b) t h) ∧ Below w.heap.size w w' := by
  have HC := hid (fun W => l1Type_any s hs W)
  have HT := hid ht
  clear ht
  go_enter Tryz.func11, Tryz.ntmps11
  go_wp2_with (go_at_call 17; refine (HC.out _).mono ?_; rintro e w1 hp; rw [HT.out] at hp; obtain ⟨pa, pp, pl, pc, rfl, hb1, htr⟩ := hp.some; clear hp; have HTR := hid htr; clear htr; have k0 := fun o => cells_of_pair (pair_alloc (block_below (heap_new w (.cells #[.string ByteArray.empty, .slice none 0 0] 32) _ rfl) hb1 (by simp)) o))
  refine bodyPost_ret (v := .agg #[.string pa, .slice pp pl pc]) (by simp [results, Tryz.results11, go_sem, (k0 _).1, (k0 _).2.1]) rfl ?_
  exact ⟨⟨⟨pa, pp, pl, pc⟩, rfl, result_tree hb1 HTR.out _ _ _⟩, result_below hb1 _ _ _⟩

set_option maxRecDepth 100000 in
set_option maxHeartbeats 2000000 in
theorem specElementText_any (s : ByteArray) (hs : s.size ≤ 400000000) (k : Int) (w : World) : Calls Tryz.prog 4 #[.string s, .int .i64 k] w (ElPost (readTy s) k w) := by
  have HPL := hid (fun W => specTypePlain_any s hs W)
  have hsv : (strV.toList == [118, 97, 108, 117, 101]) = true := by rw [strV_toList]; rfl
  have hsc : (strC.toList == [118, 97, 108, 117, 101]) = false := by rw [strC_toList]; rfl
  cases hpl : plainR s with
  | false =>
    rw [hpl] at HPL
    have HNO := hid (show elOk (readTy s) k = false by
      rw [plainR] at hpl
      cases hr : readTy s with
      | none => rfl
      | some ty => rw [hr] at hpl; simp only at hpl; rw [elOk, hpl]; rfl)
    clear hpl
    obtain ⟨o, ho⟩ : ∃ o, readTy s = o := ⟨_, rfl⟩
    rw [ho] at HNO ⊢
    have HE := hid (fun (w w' : World) (hb : Below w.heap.size w w') => (show ElPost o k w (.returned (.tuple #[.string ByteArray.empty, .bool false])) w' from by
      cases o with
      | none => exact elPost_none hb
      | some ty => exact elPost_no HNO.out hb))
    clear ho
    go_enter Tryz.func4, Tryz.ntmps4
    go_wp2_with (go_at_call 6; refine (HPL.out _).mono ?_; rintro e w1 ⟨rfl, hb1⟩)
    go_ret2
    exact HE.out _ _ hb1
  | true =>
    rw [hpl] at HPL
    cases ht : typeTree s with
    | none => rw [plainR, typeTree_none ht] at hpl; cases hpl
    | some t =>
      obtain ⟨hpt, hsz, ty, hty, hr, hk⟩ := typeTree_some ht
      have hpty : ty.plain = true := by rw [plainR, hr] at hpl; exact hpl
      have HKI := hid (fun W => specTypeKind_any s hs W)
      rw [hr] at HKI ⊢
      cases hiv : ty.isVal with
      | false =>
        have HNO := hid (show elOk (some ty) k = false by rw [elOk, hiv]; simp)
        have HKI2 := hid (fun W => (show Calls Tryz.prog 7 #[.string s] W fun e w' => e = .returned (.string strC) ∧ Below W.heap.size W w' from by have := HKI.out W; rw [kindOf, Ty.kindS, hiv] at this; exact this))
        clear hpl ht hpt hsz hty hr hk hpty hiv HKI
        go_enter Tryz.func4, Tryz.ntmps4
        go_wp2_with (first | (go_at_call 7; have _ := hb1; refine (HKI2.out _).mono ?_; rintro e w2 ⟨rfl, hb2⟩) | (go_at_call 6; refine (HPL.out _).mono ?_; rintro e w1 ⟨rfl, hb1⟩))
        go_ret2
        exact elPost_no HNO.out (hb1.trans (hb2.mono hb1.size))
      | true =>
        have HKI2 := hid (fun W => (show Calls Tryz.prog 7 #[.string s] W fun e w' => e = .returned (.string strV) ∧ Below W.heap.size W w' from by have := HKI.out W; rw [kindOf, Ty.kindS, hiv] at this; exact this))
        have HCN := hid (fun W => (show Calls Tryz.prog 9 #[.string s] W fun e w' => e = .returned (.int .i64 (cntV ty.cnt)) ∧ Below W.heap.size W w' from by have := specTypeCount_any s hs W; rw [hr] at this; exact this))
        obtain ⟨c, hc⟩ : ∃ c, cntV ty.cnt = c := ⟨_, rfl⟩
        have hc1 : -1 ≤ c ∧ c ≤ 5000 := by
          rw [← hc]
          cases h : ty.cnt with
          | none => constructor <;> decide
          | some n => have := cnt_range ty n h; constructor <;> (show _ ≤ _) <;> simp only [cntV] <;> omega
        rw [hc] at HCN
        have q1 : IntKind.i64.wrap (c - 1) = c - 1 := IntWalk.i64_in _ (by omega)
        have q2 : wrap64 (c - 1) = c - 1 := IntWalk.wrap64_in _ (by omega)
        have HIN := hid (fun W => l6In_any k 0 (c - 1) W)
        cases hin : decide (0 ≤ k ∧ k ≤ c - 1) with
        | false =>
          rw [hin] at HIN
          have HNO := hid (show elOk (some ty) k = false by
            have h2 : ¬ (0 ≤ k ∧ k ≤ c - 1) := of_decide_eq_false hin
            rw [elOk, decide_eq_false (by rw [hc]; omega)]; simp)
          clear hpl ht hpt hsz hty hr hk hpty hiv HKI hin hc hc1
          go_enter Tryz.func4, Tryz.ntmps4
          go_wp2_with (first | (go_at_call 8; have _ := hb3; refine (HIN.out _).mono ?_; rintro e w4 ⟨rfl, rfl⟩) | (go_at_call 9; have _ := hb2; refine (HCN.out _).mono ?_; rintro e w3 ⟨rfl, hb3⟩) | (go_at_call 7; have _ := hb1; refine (HKI2.out _).mono ?_; rintro e w2 ⟨rfl, hb2⟩) | (go_at_call 6; refine (HPL.out _).mono ?_; rintro e w1 ⟨rfl, hb1⟩))
          go_ret2
          exact elPost_no HNO.out ((hb1.trans (hb2.mono hb1.size)).trans (hb3.mono (Nat.le_trans hb1.size hb2.size)))
        | true =>
          rw [hin] at HIN
          have h2 : 0 ≤ k ∧ k ≤ c - 1 := of_decide_eq_true hin
          obtain ⟨kn, rfl⟩ : ∃ kn : Nat, k = (kn : Int) := ⟨k.toNat, by omega⟩
          have hvp : ty.vp = true := by rw [readTy_vp hr, hpty, hiv]; rfl
          have HYES := hid (show elOk (some ty) (kn : Int) = true by rw [elOk, hpty, hiv, decide_eq_true (by rw [hc]; omega)]; rfl)
          obtain ⟨cn, hcn⟩ : ∃ cn, ty.cnt = some cn := by
            cases h : ty.cnt with
            | none => rw [h] at hc; simp [cntV] at hc; omega
            | some n => exact ⟨n, rfl⟩
          have hkn : kn < cn := by rw [hcn] at hc; simp [cntV] at hc; omega
          have HT5 := hid (fun W => l5Tree_some s hs t ht W)
          have HV := hid (fun (w0 : World) (S : Nat → Prop) (h : Hd) (htr : TIn w0 S t h) (w : World) (h1 : Kept w0 w) (h2 : w0.heap.size ≤ w.heap.size) => l5Value_any htr ty hty hvp cn hcn kn hkn w h1 h2)
          clear hpl ht hpt hsz hty hr hk hpty hiv HKI hin hc hc1 hvp hcn hkn h2
          go_enter Tryz.func4, Tryz.ntmps4
          go_wp2_with (first | (go_at_call 10; have _ := HTR; refine (HV.out _ _ _ HTR.out _ (Kept.refl _) (Nat.le_refl _)).mono ?_; rintro e w6 ⟨rfl, hb6⟩) | (go_at_call 11; have _ := hb3; refine (HT5.out _).mono ?_; rintro e w5 ⟨⟨h5, rfl, htr⟩, hb5⟩; have HTR := hid htr; clear htr) | (go_at_call 8; have _ := hb3; refine (HIN.out _).mono ?_; rintro e w4 ⟨rfl, rfl⟩) | (go_at_call 9; have _ := hb2; refine (HCN.out _).mono ?_; rintro e w3 ⟨rfl, hb3⟩) | (go_at_call 7; have _ := hb1; refine (HKI2.out _).mono ?_; rintro e w2 ⟨rfl, hb2⟩) | (go_at_call 6; refine (HPL.out _).mono ?_; rintro e w1 ⟨rfl, hb1⟩))
          go_ret2
          exact elPost_yes HYES.out ((((hb1.trans (hb2.mono hb1.size)).trans (hb3.mono (Nat.le_trans hb1.size hb2.size))).trans (hb5.mono (Nat.le_trans (Nat.le_trans hb1.size hb2.size) hb3.size))).trans (hb6.mono (Nat.le_trans (Nat.le_trans (Nat.le_trans hb1.size hb2.size) hb3.size) hb5.size)))
end Go.Proofs.YtnmbkaemdblhpaaGreatDoor
