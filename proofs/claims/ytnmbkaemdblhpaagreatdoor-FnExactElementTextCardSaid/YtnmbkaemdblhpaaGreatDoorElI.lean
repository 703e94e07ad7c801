/- ElementText of the program. -/
import Derived.Test.YtnmbkaemdblhpaaGreatDoorElP
import Derived.Test.YtnmbkaemdblhpaaGreatDoorMeanA
import Derived.Test.YtnmbkaemdblhpaaGreatDoorKindM
import Derived.Test.YtnmbkaemdblhpaaGreatDoorIsEl
namespace Go.Proofs.YtnmbkaemdblhpaaGreatDoor
open Go.RowKit Go.Maps

set_option maxRecDepth 100000 in
theorem field_text (a : ByteArray) (z : Int) (p : Option Addr) (m c : Nat) (w : World) : (Instr.field 54 (.agg #[.string a, .int .i64 z, .slice p m c, .nilFunc]) 0).run Tryz.prog w = .ok (.string a) w := by kernel_rfl

set_option maxRecDepth 100000 in
set_option maxHeartbeats 2000000 in
theorem implElementText_any (s : ByteArray) (hs : s.size ≤ 400000000) (k : Int) (w : World) : Calls Tryz.prog 5 #[.string s, .int .i64 k] w (ElPost (readTy s) k w) := by
  have HC := hid (fun W => readType_any s hs W)
  have HPL := hid (fun W => implTypePlain_any s hs W)
  have hsv : (strV.toList == [118, 97, 108, 117, 101]) = true := by rw [strV_toList]; rfl
  have hsc : (strC.toList == [118, 97, 108, 117, 101]) = false := by rw [strC_toList]; rfl
  cases hr : readTy s with
  | none =>
    have HR := hid hr
    clear hr
    go_enter Tryz.func5, Tryz.ntmps5
    go_wp2_with (go_at_call 12; refine (HC.out _).mono ?_; rintro e w1 hp; rw [HR.out] at hp; obtain ⟨rfl, hb1⟩ := hp.none; clear hp)
    go_ret2
    exact elPost_none hb1
  | some ty =>
    obtain ⟨kn, kv, kf, hkv, hke, hkm, hkc⟩ := kindM ty
    have HKV := hid hkv
    have hpr : plainR s = ty.plain := by rw [plainR, hr]
    rw [hpr] at HPL
    have HR := hid hr
    cases hiv : ty.isVal with
    | false =>
      have HKC := hid (fun W => (show Calls Tryz.prog kf #[kv] W fun e w' => e = .returned (.string strC) ∧ Below W.heap.size W w' from by have := hkc W; rw [Ty.kindS, hiv] at this; exact this))
      have HNO := hid (show elOk (some ty) k = false by rw [elOk, hiv]; simp)
      clear hkc hkv hr hiv hpr
      go_enter Tryz.func5, Tryz.ntmps5
      go_wp2_with (first | (go_at_fn kf; refine (HKC.out _).mono ?_; rintro e w2 ⟨rfl, hb2⟩) | (go_at_call 12; refine (HC.out _).mono ?_; rintro e w1 hp; rw [HR.out] at hp; obtain ⟨he1, hb1⟩ := hp.some; rw [HKV.out] at he1; subst he1; clear hp))
      go_ret2
      exact elPost_no HNO.out (hb1.trans (hb2.mono hb1.size))
    | true =>
      have HKC := hid (fun W => (show Calls Tryz.prog kf #[kv] W fun e w' => e = .returned (.string strV) ∧ Below W.heap.size W w' from by have := hkc W; rw [Ty.kindS, hiv] at this; exact this))
      cases hpl : ty.plain with
      | false =>
        rw [hpl] at HPL
        have HNO := hid (show elOk (some ty) k = false by rw [elOk, hpl]; simp)
        clear hkc hkv hr hiv hpr hpl
        go_enter Tryz.func5, Tryz.ntmps5
        go_wp2_with (first | (go_at_call 13; have _ := hb2; refine (HPL.out _).mono ?_; rintro e w3 ⟨rfl, hb3⟩) | (go_at_fn kf; refine (HKC.out _).mono ?_; rintro e w2 ⟨rfl, hb2⟩) | (go_at_call 12; refine (HC.out _).mono ?_; rintro e w1 hp; rw [HR.out] at hp; obtain ⟨he1, hb1⟩ := hp.some; rw [HKV.out] at he1; subst he1; clear hp))
        go_ret2
        exact elPost_no HNO.out ((hb1.trans (hb2.mono hb1.size)).trans (hb3.mono (Nat.le_trans hb1.size hb2.size)))
      | true =>
        rw [hpl] at HPL
        have hvp : ty.vp = true := by rw [readTy_vp hr, hpl, hiv]; rfl
        have hsm := readTy_small hr
        have HD := hid (fun (W : World) (o : Obj) => count_any ty hsm ((W.alloc (.map #[] 0)).alloc o) W.heap.size 0 (.map []) ((World.ownsMap_made W Tryz.prog 9 (plainElem Tryz.prog 3)).alloc o) good_none (by omega))
        have HIE := hid (fun (c : Int) (W : World) => isElement_any k c W)
        have hmm := @run_makeMap Tryz.prog
        rw [HKV.out] at HD
        obtain ⟨c, hc⟩ : ∃ c, cntV ty.cnt = c := ⟨_, rfl⟩
        rw [hc] at HD
        have hnf := store_nilF
        have hft := field_text
        cases hin : decide (0 ≤ k ∧ k < c) with
        | false =>
          have HIE2 := hid (fun W => (show Calls Tryz.prog 14 #[.int .i64 k, .int .i64 c] W fun e w' => e = .returned (.bool false) ∧ W = w' from by have := isElement_any k c W; rw [hin] at this; exact this))
          have HNO := hid (show elOk (some ty) k = false by rw [elOk, hc, hin]; simp)
          clear hkc hkv hr hiv hpr hpl hvp hsm hc hin
          go_enter Tryz.func5, Tryz.ntmps5
          go_wp2_with (first | (go_at_call 14; have _ := HG4; refine (HIE2.out _).mono ?_; rintro e w5 ⟨rfl, rfl⟩) | (go_at_call 15; have _ := hb3; refine (HD.out w3 _).mono ?_; rintro e w4 ⟨rfl, hg4, n4, D4, hn4, ho4, hgd4⟩; have HG4 := hid hg4; have HN4 := hid hn4; have HO4 := hid ho4; have HGD4 := hid hgd4; clear hg4 hn4 ho4 hgd4) | (go_at_call 13; have _ := hb2; refine (HPL.out _).mono ?_; rintro e w3 ⟨rfl, hb3⟩) | (go_at_fn kf; refine (HKC.out _).mono ?_; rintro e w2 ⟨rfl, hb2⟩) | (go_at_call 12; refine (HC.out _).mono ?_; rintro e w1 hp; rw [HR.out] at hp; obtain ⟨he1, hb1⟩ := hp.some; rw [HKV.out] at he1; subst he1; clear hp))
          go_ret2
          have hbb := (hb1.trans (hb2.mono hb1.size)).trans (hb3.mono (Nat.le_trans hb1.size hb2.size))
          exact elPost_no HNO.out (hbb.trans ((grown_below (Below.refl _ _) ((World.grownBy_alloc _ _ _).trans HG4.out)).mono hbb.size))
        | true =>
          have HIE2 := hid (fun W => (show Calls Tryz.prog 14 #[.int .i64 k, .int .i64 c] W fun e w' => e = .returned (.bool true) ∧ W = w' from by have := isElement_any k c W; rw [hin] at this; exact this))
          have h2 : 0 ≤ k ∧ k < c := of_decide_eq_true hin
          obtain ⟨kk, rfl⟩ : ∃ kk : Nat, k = (kk : Int) := ⟨k.toNat, by omega⟩
          have HYES := hid (show elOk (some ty) (kk : Int) = true by rw [elOk, hc, hin, hpl, hiv]; rfl)
          obtain ⟨cn, hcn, hcn2⟩ := cntV_pos h2.1 (by rw [hc]; exact h2.2)
          have hkn : kk < cn := by rw [hcn2] at hc; omega
          have hwp := vp_small hvp hcn
          have hbu := bud_le ty
          have hbu2 : ty.bud ≤ 4489 := Nat.le_trans hbu (Nat.mul_le_mul hwp hwp)
          have HM := hid (fun (w3 w4 : World) (n4 : Nat) (D4 : DataW Unit) (hg4 : ((w3.alloc (.map #[] 0)).alloc (.cells #[.pointer none, .map none, .map (some w3.heap.size), .map none, .map none, .map none, .int .i64 0] 48)).grownBy w4 (some w3.heap.size)) (hn4 : n4 ≤ 0 + ty.write.length) (ho4 : w4.ownsMap Tryz.prog 9 (plainElem Tryz.prog 3) w3.heap.size n4 D4) (hgd4 : Good D4) =>
            meaningOf_any ty hvp cn hcn kk hkn (w3.heap.size + 1) w3.heap.size n4 D4 #[.pointer none, .map none, .map (some w3.heap.size), .map none, .map none, .map none, .int .i64 0] 48 (0, 0) w4 (block_grown (heap_new (w3.alloc (.map #[] 0)) (.cells #[.pointer none, .map none, .map (some w3.heap.size), .map none, .map none, .map none, .int .i64 0] 48) (w3.heap.size + 1) (by simp)) hg4 (by simp)) rfl ho4 hgd4 (by omega))
          rw [HKV.out] at HM
          clear hkc hkv hr hiv hpr hpl hvp hsm hc hin h2 hcn hcn2 hkn hwp hbu hbu2
          go_enter Tryz.func5, Tryz.ntmps5
          go_wp2_with (first | (go_at_call 16; have _ := HG4; refine (HM.out _ _ n4 D4 HG4.out HN4.out HO4.out HGD4.out).mono ?_; rintro e w5 ⟨⟨z5, p5, m5, c5, rfl⟩, hg5, hrest⟩; have HG5 := hid hg5; clear hg5 hrest) | (go_at_call 14; have _ := HG4; refine (HIE2.out _).mono ?_; rintro e w5 ⟨rfl, rfl⟩) | (go_at_call 15; have _ := hb3; refine (HD.out w3 _).mono ?_; rintro e w4 ⟨rfl, hg4, n4, D4, hn4, ho4, hgd4⟩; have HG4 := hid hg4; have HN4 := hid hn4; have HO4 := hid ho4; have HGD4 := hid hgd4; clear hg4 hn4 ho4 hgd4) | (go_at_call 13; have _ := hb2; refine (HPL.out _).mono ?_; rintro e w3 ⟨rfl, hb3⟩) | (go_at_fn kf; refine (HKC.out _).mono ?_; rintro e w2 ⟨rfl, hb2⟩) | (go_at_call 12; refine (HC.out _).mono ?_; rintro e w1 hp; rw [HR.out] at hp; obtain ⟨he1, hb1⟩ := hp.some; rw [HKV.out] at he1; subst he1; clear hp))
          go_ret2
          have hbb := (hb1.trans (hb2.mono hb1.size)).trans (hb3.mono (Nat.le_trans hb1.size hb2.size))
          exact elPost_yes HYES.out (hbb.trans ((grown_below (Below.refl _ _) (((World.grownBy_alloc _ _ _).trans HG4.out).trans HG5.out)).mono hbb.size))
end Go.Proofs.YtnmbkaemdblhpaaGreatDoor
