/- Merged: DfJ, DfL, DfK, DfM, DsX, DsP, DeX. -/
import Derived.Test.YtfgkjgooaiolcaaGreatDoorDZ0
import Derived.Test.YtfgkjgooaiolcaaGreatDoorDZ35
import Derived.Test.YtfgkjgooaiolcaaGreatDoorDZ28
import Derived.Test.YtfgkjgooaiolcaaGreatDoorDZ15
import Derived.Test.YtfgkjgooaiolcaaGreatDoorDZ24
import Derived.Test.YtfgkjgooaiolcaaGreatDoorDZ18
import Derived.Test.YtfgkjgooaiolcaaGreatDoorDZ31
import Derived.Test.YtfgkjgooaiolcaaGreatDoorDZ30
import Derived.Test.YtfgkjgooaiolcaaGreatDoorDZ12
import Derived.Test.YtfgkjgooaiolcaaGreatDoorDZSMkU
import Derived.Test.YtfgkjgooaiolcaaGreatDoorDZSInS
import Derived.Test.YtfgkjgooaiolcaaGreatDoorDZSSpecT
import Derived.Test.YtfgkjgooaiolcaaGreatDoorDZ34
namespace Go.Proofs.YtfgkjgooaiolcaaGreatDoor
open Go.RowKit Go.Maps

/-- A text that is a term. -/
def tmX (t : ByteArray) : Option ByteArray := if (readTm t).isSome then some t else none
/-- What Define answers. -/
def dfX (o : Option Ty) (k : Int) : Option ByteArray := match o with
  | some ty => if 0 ≤ k ∧ k < cntV ty.cnt then tmX (ty.dt k.toNat 0).1.txt else none
  | none => none

set_option maxRecDepth 100000 in
set_option maxHeartbeats 4000000 in
theorem ifTerm_any (t : ByteArray) (ht : t.size ≤ 400000000) (w : World) : Calls Tryz.prog 35 #[.string t] w (TxPost (tmX t) w) := by
  have HC := hid (fun W => readTerm_any t ht W)
  cases hr : readTm t with
  | none =>
    have HR := hid hr
    have HX := hid (show tmX t = none by rw [tmX, hr]; rfl)
    rw [HX.out]
    clear hr
    go_enter Tryz.func35, Tryz.ntmps35
    go_wp2_with (go_at_call 18; refine (HC.out _).mono ?_; rintro e w1 hp; rw [HR.out] at hp; obtain ⟨rfl, hb1⟩ := hp.none; clear hp)
    go_ret2
    exact txPost_none hb1
  | some m =>
    have HR := hid hr
    have HX := hid (show tmX t = some t by rw [tmX, hr]; rfl)
    rw [HX.out]
    clear hr
    go_enter Tryz.func35, Tryz.ntmps35
    go_wp2_with (go_at_call 18; refine (HC.out _).mono ?_; rintro e w1 hp; rw [HR.out] at hp; obtain ⟨a, rfl, hb1, -⟩ := hp.some; clear hp)
    go_ret2
    exact ⟨rfl, hb1⟩

theorem below_trn {b nb : Nat} {w w1 w2 : World} (h : Below w.heap.size w w1) (hb : w.heap.size ≤ b) (hn : w.heap.size ≤ nb) (ht : Trn b nb w1 w2) : Below w.heap.size w w2 :=
  ⟨ht.os.trans h.os, ht.tape.trans h.tape, ht.output.trans h.output, Nat.le_trans h.size ht.size, fun k hk => (ht.block k (Nat.lt_of_lt_of_le hk h.size) (by omega) (by omega)).trans (h.block k hk)⟩

set_option maxRecDepth 100000 in
set_option maxHeartbeats 4000000 in
theorem defining_any (ty : Ty) (hw : ty.wf = true) (hs : ty.write.length ≤ 12000) (k : Int) (w : World) : Calls Tryz.prog 17 #[ty.val, .int .i64 k] w (TxPost (dfX (some ty) k) w) := by
  have HN := hid (fun W => newDefiner_any W)
  obtain ⟨nx, vx, hx⟩ := ty.val_iface
  have HO := hid (fun (b nb : Nat) (W : World) (hd : DIn b nb 0 0 (.map []) W) => (count_any ty hs W b 0 (.map []) hd.own hd.good (by omega)).mono fun e w' hp => hd.count hp)
  obtain ⟨c, hc⟩ : ∃ c, cntV ty.cnt = c := ⟨_, rfl⟩
  rw [hc] at HO
  have hsf := store_fn
  by_cases hin : 0 ≤ k ∧ k < c
  · have HIE := hid (fun W => (show Calls Tryz.prog 33 #[.int .i64 k, .int .i64 c] W fun e w' => e = .returned (.bool true) ∧ W = w' from by have := isElement_any k c W; rw [decide_eq_true hin] at this; exact this))
    obtain ⟨kk, rfl⟩ : ∃ kk : Nat, k = (kk : Int) := ⟨k.toNat, by omega⟩
    obtain ⟨cn, hcn, hcn2⟩ := cntV_pos hin.1 (by rw [hc]; exact hin.2)
    have hkn : kk < cn := by rw [hcn2] at hc; omega
    have hk1 := kn_of ty cn hw hcn
    have hl12 := lt_12 hw hcn
    have hbn := kn_bounds ty hk1
    have hlen := kn_len hk1 hl12
    have hsm := smt_len (dt_sm ty hk1 kk 0) hl12
    have hbud : ty.dbud ≤ 20000 := by
      have h1 := hbn.2.2.2.2
      have h2 : 8 * ty.lt * ty.write.length ≤ 96 * 150 := Nat.mul_le_mul (by omega) hlen
      omega
    have HX := hid (show dfX (some ty) (kk : Int) = tmX (ty.dt kk 0).1.txt by rw [dfX, if_pos (by rw [hc]; exact hin)]; rfl)
    rw [HX.out]
    have HDE := hid (fun (b nb n : Nat) (D : DataW Unit) (W : World) (hd : DIn b nb n 0 D W) (hn : n ≤ 0 + ty.write.length) => define_any ty hk1 hl12 cn hcn kk hkn b nb n 0 D W hd (by omega) (by omega))
    have HIT := hid (fun W => ifTerm_any (ty.dt kk 0).1.txt (by rw [txt_size]; omega) W)
    obtain ⟨T, hT⟩ : ∃ T, (ty.dt kk 0).1.txt = T := ⟨_, rfl⟩
    rw [hT] at HDE HIT
    rw [hT]
    obtain ⟨xa, xd, hxv⟩ := txV_shape (tmX T)
    have HTX := hid (fun W e W' (h : TxPost (tmX T) W e W') => (show e = .returned (.tuple #[.string xa, .bool xd]) ∧ Below W.heap.size W W' from by rw [← hxv]; exact h))
    have HFT := hid (fun W W' (h : Below W.heap.size W W') => (show TxPost (tmX T) W (.returned (.tuple #[.string xa, .bool xd])) W' from by rw [← hxv]; exact ⟨rfl, h⟩))
    rw [hx] at HO HDE
    rw [hx]
    clear hx hw hs hin hcn hcn2 hkn hk1 hl12 hbn hlen hsm hbud hT hxv hc
    go_enter Tryz.func17, Tryz.ntmps17
    go_wp2_with (first
      | (go_at_call 32; refine (HN.out _).mono ?_; rintro e w1 ⟨⟨b, nb, rfl, hgb, hgn, hd1⟩, hb1⟩; have hn1 := hd1.lt; have HD1 := hid (hd1.below ((Below.refl _ _).alloc (Nat.le_refl _) (.cells #[.map (some b), .func (.func 79) #[] #[.pointer (some ⟨nb, 0, none⟩)]] 72))); have HGB := hid hgb; have HGN := hid hgn; have HB1 := hid hb1; have HLT := hid hn1; clear hgb hgn hd1 hb1 hn1)
      | (go_at_call 33; have _ := HD2; refine (HIE.out _).mono ?_; rintro e w9 ⟨rfl, rfl⟩)
      | (go_at_call 34; have _ := HD1; refine (HO.out b nb _ HD1.out).mono ?_; rintro e w2 ⟨rfl, ht2, n2, D2, hn2, hd2⟩; obtain ⟨f1, ht02⟩ := Trn.one w1 _ HLT.out.1 HLT.out.2 ht2; have k1 := Trn.cell (i := 0) f1 rfl; have k2 := Trn.cell (i := 1) f1 rfl; have HT2 := hid ht02; have HN2 := hid hn2; have HD2 := hid hd2; clear ht2 ht02 hn2 hd2 f1)
      | (go_at_call 35; have _ := HD3; refine (HIT.out _).mono ?_; rintro e w4 hp; obtain ⟨rfl, hb4⟩ := HTX.out _ _ _ hp; have HB4 := hid hb4; clear hp hb4)
      | (go_at_call 36; have _ := HD2; refine (HDE.out b nb n2 D2 _ HD2.out HN2.out).mono ?_; rintro e w3 ⟨rfl, ht3, n3, D3, hn3, hd3⟩; have HT3 := hid (HT2.out.trans ht3); have HD3 := hid hd3; clear ht3 hn3 hd3))
    go_ret2
    have hbb := below_trn HB1.out HGB.out HGN.out HT3.out
    exact HFT.out _ _ (hbb.trans (HB4.out.mono hbb.size))
  · have HIE := hid (fun W => (show Calls Tryz.prog 33 #[.int .i64 k, .int .i64 c] W fun e w' => e = .returned (.bool false) ∧ W = w' from by have := isElement_any k c W; rw [decide_eq_false hin] at this; exact this))
    have HX := hid (show dfX (some ty) k = none by rw [dfX, if_neg (by rw [hc]; exact hin)])
    rw [HX.out]
    rw [hx] at HO
    rw [hx]
    clear hx hw hs hin hc
    go_enter Tryz.func17, Tryz.ntmps17
    go_wp2_with (first
      | (go_at_call 32; refine (HN.out _).mono ?_; rintro e w1 ⟨⟨b, nb, rfl, hgb, hgn, hd1⟩, hb1⟩; have hn1 := hd1.lt; have HD1 := hid (hd1.below ((Below.refl _ _).alloc (Nat.le_refl _) (.cells #[.map (some b), .func (.func 79) #[] #[.pointer (some ⟨nb, 0, none⟩)]] 72))); have HGB := hid hgb; have HGN := hid hgn; have HB1 := hid hb1; have HLT := hid hn1; clear hgb hgn hd1 hb1 hn1)
      | (go_at_call 33; have _ := HT2; refine (HIE.out _).mono ?_; rintro e w9 ⟨rfl, rfl⟩)
      | (go_at_call 34; have _ := HD1; refine (HO.out b nb _ HD1.out).mono ?_; rintro e w2 ⟨rfl, ht2, n2, D2, hn2, hd2⟩; obtain ⟨f1, ht02⟩ := Trn.one w1 _ HLT.out.1 HLT.out.2 ht2; have HT2 := hid ht02; clear ht2 ht02 hn2 hd2 f1))
    go_ret2
    exact txPost_none (below_trn HB1.out HGB.out HGN.out HT2.out)
end Go.Proofs.YtfgkjgooaiolcaaGreatDoor

namespace Go.Proofs.YtfgkjgooaiolcaaGreatDoor
open Go.RowKit

theorem sort_none {t : ByteArray} (h : readTm t = none) : (sortOf t).toList = [] := by unfold sortOf; rw [h]; simp [srtS]
theorem sort_some {t : ByteArray} {m : Tm} (h : readTm t = some m) : ((sortOf t).toList == []) = false := by
  unfold sortOf; rw [h]
  cases hv : m.isVal
  · simp only [Option.map_some, hv, srtS]; rw [strC_toList]; rfl
  · simp only [Option.map_some, hv, srtS]; rw [strV_toList]; rfl

set_option maxRecDepth 100000 in
set_option maxHeartbeats 2000000 in
theorem l6dText_any (mb c a : Nat) (hc : c ≤ 900) (ha : a ≤ 12000) (S : Nat → Prop) (t : Tree) (h : Hd) (w : World) (hm : MIn mb c a w) (ht : TIn w S t h) (hsz : t.size ≤ 1500) (hwt : t.wt ≤ 12000) (hln : t.write.length ≤ 12000) :
    Calls Tryz.prog 23 #[.pointer (some ⟨mb, 0, none⟩), .agg #[.string h.a, .slice h.p h.l h.c]] w (TxPost (tmX t.txt) w) := by
  have HMU := hid (fun W (hM : MIn mb c a W) => l6dMuch_any mb c a hc ha W hM)
  have HM := hid (fun o => hm.below ((Below.refl _ _).alloc (Nat.le_refl _) o))
  have HSZ := hid (fun (W : World) (hk : Kept w W) (hw : w.heap.size ≤ W.heap.size) => l1Size_any ht (by omega) W hk hw)
  have HTX := hid (fun (W : World) (hk : Kept w W) (hw : w.heap.size ≤ W.heap.size) => l1Text_any ht hln hwt W hk hw)
  have HSO := hid (fun W => specTermSort_any t.txt (by rw [txt_size]; omega) W)
  have q1 : ¬ (1500 : Int) < (t.size : Int) := by omega
  cases hr : readTm t.txt with
  | none =>
    have HX := hid (show tmX t.txt = none by rw [tmX, hr]; rfl)
    rw [HX.out]
    have q2 := sort_none hr
    obtain ⟨T, hT⟩ : ∃ T, t.txt = T := ⟨_, rfl⟩
    rw [hT] at HTX HSO q2
    obtain ⟨Z, hZ⟩ : ∃ Z, sortOf T = Z := ⟨_, rfl⟩
    rw [hZ] at HSO q2
    have q3 : (Z.toList == []) = true := by rw [q2]; rfl
    clear hm ht hsz hwt hln hr hT hZ hc ha HX
    go_enter Tryz.func23, Tryz.ntmps23
    go_wp2_with (first
      | (go_at_call 42; have _ := hb2; refine (HSO.out _).mono ?_; rintro e w3 ⟨rfl, hb3⟩; have k3 := cells_of_pair (block_below K2.out hb3 (Nat.lt_of_lt_of_le (Nat.lt_of_lt_of_le (by simp) hb1.size) hb2.size)))
      | (go_at_call 43; have _ := hb1; refine (HTX.out _ ((((Kept.refl _).alloc (Nat.le_refl _) _)).below hb1 (by simp)) (Nat.le_trans (by simp) hb1.size)).mono ?_; rintro e w2 ⟨rfl, hb2⟩; have K2 := hid (block_below K1.out hb2 (Nat.lt_of_lt_of_le (by simp) hb1.size)); have k2 := cells_of_pair K2.out)
      | (go_at_call 29; refine (HSZ.out _ ((Kept.refl _).alloc (Nat.le_refl _) _) (by simp)).mono ?_; rintro e w1 ⟨rfl, hb1⟩; have K1 := hid (block_below (heap_new w (.cells #[.string h.a, .slice h.p h.l h.c] 46) _ rfl) hb1 (by simp)); have k1 := cells_of_pair K1.out)
      | (go_at_call 41; refine (HMU.out _ (HM.out _)).mono ?_; rintro e w0 ⟨rfl, rfl⟩))
    go_ret2
    exact txPost_none ((((Below.refl w.heap.size w).alloc (Nat.le_refl _) _).trans (hb1.mono (by simp))).trans ((hb2.mono (Nat.le_trans (by simp) hb1.size)).trans (hb3.mono (Nat.le_trans (Nat.le_trans (by simp) hb1.size) hb2.size))))
  | some m =>
    have HX := hid (show tmX t.txt = some t.txt by rw [tmX, hr]; rfl)
    rw [HX.out]
    have q3 := sort_some hr
    obtain ⟨T, hT⟩ : ∃ T, t.txt = T := ⟨_, rfl⟩
    rw [hT] at HTX HSO q3
    rw [hT]
    obtain ⟨Z, hZ⟩ : ∃ Z, sortOf T = Z := ⟨_, rfl⟩
    rw [hZ] at HSO q3
    clear hm ht hsz hwt hln hr hT hZ hc ha HX
    go_enter Tryz.func23, Tryz.ntmps23
    go_wp2_with (first
      | (go_at_call 43; have _ := hb3; refine (HTX.out _ (((((Kept.refl _).alloc (Nat.le_refl _) _)).below hb1 (by simp)).below (hb2.trans (hb3.mono hb2.size)) (Nat.le_trans (by simp) hb1.size)) (Nat.le_trans (Nat.le_trans (Nat.le_trans (by simp) hb1.size) hb2.size) hb3.size)).mono ?_; rintro e w4 ⟨rfl, hb4⟩)
      | (go_at_call 42; have _ := hb2; refine (HSO.out _).mono ?_; rintro e w3 ⟨rfl, hb3⟩; have k3 := cells_of_pair (block_below K2.out hb3 (Nat.lt_of_lt_of_le (Nat.lt_of_lt_of_le (by simp) hb1.size) hb2.size)))
      | (go_at_call 43; have _ := hb1; refine (HTX.out _ ((((Kept.refl _).alloc (Nat.le_refl _) _)).below hb1 (by simp)) (Nat.le_trans (by simp) hb1.size)).mono ?_; rintro e w2 ⟨rfl, hb2⟩; have K2 := hid (block_below K1.out hb2 (Nat.lt_of_lt_of_le (by simp) hb1.size)); have k2 := cells_of_pair K2.out)
      | (go_at_call 29; refine (HSZ.out _ ((Kept.refl _).alloc (Nat.le_refl _) _) (by simp)).mono ?_; rintro e w1 ⟨rfl, hb1⟩; have K1 := hid (block_below (heap_new w (.cells #[.string h.a, .slice h.p h.l h.c] 46) _ rfl) hb1 (by simp)); have k1 := cells_of_pair K1.out)
      | (go_at_call 41; refine (HMU.out _ (HM.out _)).mono ?_; rintro e w0 ⟨rfl, rfl⟩))
    go_ret2
    exact ⟨rfl, (((Below.refl w.heap.size w).alloc (Nat.le_refl _) _).trans (hb1.mono (by simp))).trans (((hb2.mono (Nat.le_trans (by simp) hb1.size)).trans (hb3.mono (Nat.le_trans (Nat.le_trans (by simp) hb1.size) hb2.size))).trans (hb4.mono (Nat.le_trans (Nat.le_trans (Nat.le_trans (by simp) hb1.size) hb2.size) hb3.size)))⟩
end Go.Proofs.YtfgkjgooaiolcaaGreatDoor

namespace Go.Proofs.YtfgkjgooaiolcaaGreatDoor
open Go.RowKit

theorem readTy_wf {s : ByteArray} {ty : Ty} (h : readTy s = some ty) : ty.wf = true := by
  unfold readTy at h
  split at h
  · rename_i t _
    split at h
    · exact ty_wf t ty h
    · simp at h
  · simp at h
set_option maxRecDepth 100000 in
set_option maxHeartbeats 1000000 in
theorem implDefine_any (s : ByteArray) (hs : s.size ≤ 400000000) (k : Int) (w : World) : Calls Tryz.prog 9 #[.string s, .int .i64 k] w (TxPost (dfX (readTy s) k) w) := by
  have HC := hid (fun W => readType_any s hs W)
  cases hr : readTy s with
  | none =>
    have HR := hid hr
    clear hr
    go_enter Tryz.func9, Tryz.ntmps9
    go_wp2_with (go_at_call 16; refine (HC.out _).mono ?_; rintro e w1 hp; rw [HR.out] at hp; obtain ⟨rfl, hb1⟩ := hp.none; clear hp)
    go_ret2
    exact txPost_none hb1
  | some ty =>
    have HD := hid (fun W => defining_any ty (readTy_wf hr) (readTy_small hr) k W)
    have HR := hid hr
    obtain ⟨xa, xd, hxv⟩ := txV_shape (dfX (some ty) k)
    have HTX := hid (fun W e W' (h : TxPost (dfX (some ty) k) W e W') => (show e = .returned (.tuple #[.string xa, .bool xd]) ∧ Below W.heap.size W W' from by rw [← hxv]; exact h))
    have HFT := hid (fun W W' (h : Below W.heap.size W W') => (show TxPost (dfX (some ty) k) W (.returned (.tuple #[.string xa, .bool xd])) W' from by rw [← hxv]; exact ⟨rfl, h⟩))
    obtain ⟨n, v, hv⟩ := ty.val_iface
    have HV := hid hv
    rw [hv] at HD
    clear hr hxv hv
    go_enter Tryz.func9, Tryz.ntmps9
    go_wp2_with (first | (go_at_call 17; have _ := hb1; refine (HD.out _).mono ?_; rintro e w2 hp; obtain ⟨rfl, hb2⟩ := HTX.out _ _ _ hp; clear hp) | (go_at_call 16; refine (HC.out _).mono ?_; rintro e w1 hp; rw [HR.out] at hp; obtain ⟨he1, hb1⟩ := hp.some; rw [HV.out] at he1; subst he1; clear hp))
    go_ret2
    exact HFT.out _ _ (hb1.trans (hb2.mono hb1.size))
end Go.Proofs.YtfgkjgooaiolcaaGreatDoor

namespace Go.Proofs.YtfgkjgooaiolcaaGreatDoor
open Go.RowKit

theorem below_maker {B mb : Nat} {w w' : World} (hg : w.grownBy w' (some mb)) (hB : B ≤ mb) (hs : B ≤ w.heap.size) : Below B w w' := ⟨hg.os, hg.tape, hg.output, hg.size, fun k hk => hg.block k (by omega) (by simp; omega)⟩
/-- A tree that was read, and a maker behind it. -/
theorem df_ready {w w1 w2 : World} {o o2 : Obj} {t : Tree} {h : Hd} (ht : TIn w1 (fun b => w.heap.size ≤ b) t h) (hb2 : Below (w1.alloc o).heap.size (w1.alloc o) w2) : Own w2.heap.size (fun j => j < w1.heap.size) ∧ TIn (w2.alloc o2) (fun j => j < w1.heap.size) t h := by
  have hz := hb2.size
  simp at hz
  refine ⟨fun j hj => by simp at hj; omega, ht.keep (fun k _ hl => ?_) (fun k _ hl => hl)⟩
  exact ((((Below.refl w1.heap.size w1).alloc (Nat.le_refl _) o).trans (hb2.mono (by simp))).alloc (by omega) o2).block k hl

set_option maxRecDepth 100000 in
set_option maxHeartbeats 4000000 in
theorem specDefine_any (s : ByteArray) (hs : s.size ≤ 400000000) (k : Int) (w : World) : Calls Tryz.prog 12 #[.string s, .int .i64 k] w (TxPost (dfX (readTy s) k) w) := by
  have HC := hid (fun W => l1Type_any s hs W)
  cases ht : typeTree s with
  | none =>
    have HR := hid (typeTree_none ht)
    have HT := hid ht
    rw [HR.out]
    clear ht
    go_enter Tryz.func12, Tryz.ntmps12
    go_wp2_with (go_at_call 20; refine (HC.out _).mono ?_; rintro e w1 hp; rw [HT.out] at hp; obtain ⟨pa, pp, pl, pc, rfl, hpl, hb1⟩ := hp.none; clear hp)
    go_ret2
    exact txPost_none (hb1.alloc hb1.size _)
  | some t =>
    obtain ⟨hpt, hsz, ty, hty, hr, hk⟩ := typeTree_some ht
    have htt := ty_tree t ty hty
    have hwf := readTy_wf hr
    rw [hr]
    have HT := hid ht
    have HCN := hid (fun (w0 : World) (S : Nat → Prop) (h : Hd) (htr : TIn w0 S t h) (W : World) (h1 : Kept w0 W) (h2 : w0.heap.size ≤ W.heap.size) => l1Count_any htr ty hty W h1 h2)
    obtain ⟨c, hc⟩ : ∃ c, cntV ty.cnt = c := ⟨_, rfl⟩
    have hc1 : -1 ≤ c ∧ c ≤ 5000 := by
      rw [← hc]
      cases h : ty.cnt with
      | none => constructor <;> decide
      | some n => have := cnt_range ty n h; constructor <;> (show _ ≤ _) <;> simp only [cntV] <;> omega
    rw [hc] at HCN
    have q1 : IntKind.i64.wrap (c - 1) = c - 1 := IntWalk.i64_in _ (by omega)
    have q2 : wrap64 (c - 1) = c - 1 := IntWalk.wrap64_in _ (by omega)
    have HIN := hid (fun W => l6In_any k 0 (c - 1) W)
    cases hin : decide (0 ≤ k ∧ k ≤ c - 1) with
    | false =>
      rw [hin] at HIN
      have HX := hid (show dfX (some ty) k = none by
        have h2 : ¬ (0 ≤ k ∧ k ≤ c - 1) := of_decide_eq_false hin
        rw [dfX, if_neg (by rw [hc]; omega)])
      rw [HX.out]
      clear ht hpt hsz hty hr hk hin hc hc1 htt hwf
      go_enter Tryz.func12, Tryz.ntmps12
      go_wp2_with (first
        | (go_at_call 21; have _ := hb2; refine (HIN.out _).mono ?_; rintro e w9 ⟨rfl, rfl⟩)
        | (go_at_call 20; refine (HC.out _).mono ?_; rintro e w1 hp; rw [HT.out] at hp; obtain ⟨pa, pp, pl, pc, rfl, hb1, htr⟩ := hp.some; clear hp; have HD := hid (fun W hk hs => HCN.out _ _ _ htr W hk hs); clear htr)
        | (go_at_call 22; refine (HD.out _ ((Kept.refl _).alloc (Nat.le_refl _) _) (by simp)).mono ?_; rintro e w2 ⟨rfl, hb2⟩))
      go_ret2
      have s1 := hb1.size
      exact txPost_none (hb1.trans (((Below.refl _ _).alloc s1 _).trans (hb2.mono (by simp; omega))))
    | true =>
      rw [hin] at HIN
      have h2 : 0 ≤ k ∧ k ≤ c - 1 := of_decide_eq_true hin
      obtain ⟨kk, rfl⟩ : ∃ kk : Nat, k = (kk : Int) := ⟨k.toNat, by omega⟩
      obtain ⟨cn, hcn, hcn2⟩ := cntV_pos h2.1 (by rw [hc]; omega)
      have hkn : kk < cn := by rw [hcn2] at hc; omega
      have hk1 := kn_of ty cn hwf hcn
      have hl12 := lt_12 hwf hcn
      have hbn := kn_bounds ty hk1
      have hdat : ty.dat ≤ 1000 := by have := hbn.1; split at this <;> omega
      have hnm5 := dnm_5 hwf hcn
      have hsm := dt_sm ty hk1 kk 0
      have hlen := smt_len hsm hl12
      have hwt : (ty.dt kk 0).1.wt ≤ 12000 := by have := hsm.2.1; split at this <;> omega
      have hsz1 : (ty.dt kk 0).1.size ≤ 1500 := by have := hsm.1; split at this <;> omega
      have hnm := (dt_nm ty kk 0).2
      have HX := hid (show dfX (some ty) (kk : Int) = tmX (ty.dt kk 0).1.txt by rw [dfX, if_pos (by rw [hc]; omega)]; rfl)
      rw [HX.out]
      have HDF := hid (fun (mb : Nat) (S : Nat → Prop) (hS : Own mb S) (h : Hd) (W : World) (hT : TIn W S t h) (hM : MIn mb 0 0 W) => l6dDefine_any ty hk1 hwf hl12 cn hcn kk hkn mb 0 0 S hS h W (htt ▸ hT) hM (by omega) (by omega))
      have HTE := hid (fun (mb a : Nat) (ha : a ≤ 0 + ty.dat) (S : Nat → Prop) (h : Hd) (W : World) (hM : MIn mb (ty.dt kk 0).2 a W) (hT : TIn W S (ty.dt kk 0).1 h) => l6dText_any mb (ty.dt kk 0).2 a (by omega) (by omega) S _ h W hM hT hsz1 hwt (by omega))
      obtain ⟨n', hn'⟩ : ∃ n', (ty.dt kk 0).2 = n' := ⟨_, rfl⟩
      obtain ⟨T, hT⟩ : ∃ T, (ty.dt kk 0).1 = T := ⟨_, rfl⟩
      obtain ⟨dd, hdd⟩ : ∃ dd, ty.dat = dd := ⟨_, rfl⟩
      rw [hn', hT, hdd] at HDF HTE
      rw [hT]
      obtain ⟨xa, xd, hxv⟩ := txV_shape (tmX T.txt)
      have HTX := hid (fun W e W' (h : TxPost (tmX T.txt) W e W') => (show e = .returned (.tuple #[.string xa, .bool xd]) ∧ Below W.heap.size W W' from by rw [← hxv]; exact h))
      have HFT := hid (fun W W' (h : Below W.heap.size W W') => (show TxPost (tmX T.txt) W (.returned (.tuple #[.string xa, .bool xd])) W' from by rw [← hxv]; exact ⟨rfl, h⟩))
      clear ht hpt hsz hty hr hk hin hc hc1 htt hwf h2 hcn hcn2 hkn hk1 hl12 hbn hdat hnm5 hsm hlen hwt hsz1 hnm hn' hT hdd hxv HX
      go_enter Tryz.func12, Tryz.ntmps12
      go_wp2_with (first
        | (go_at_call 23; have _ := HG3; refine (HTE.out _ _ HA3.out _ _ _ HM3.out HT3.out).mono ?_; rintro e w4 hp; obtain ⟨rfl, hb4⟩ := HTX.out _ _ _ hp; clear hp)
        | (go_at_call 24; have _ := HB2; refine (HDF.out _ _ HR2.out.1 _ _ HR2.out.2 (heap_new w2 _ _ rfl)).mono ?_; rintro e w3 ⟨h3, a3, rfl, hg3, ha3, hm3, ht3⟩; have HG3 := hid hg3; have HA3 := hid ha3; have HM3 := hid hm3; have HT3 := hid ht3; clear hg3 ha3 hm3 ht3)
        | (go_at_call 21; have _ := HB2; refine (HIN.out _).mono ?_; rintro e w9 ⟨rfl, rfl⟩)
        | (go_at_call 20; refine (HC.out _).mono ?_; rintro e w1 hp; rw [HT.out] at hp; obtain ⟨pa, pp, pl, pc, rfl, hb1, htr⟩ := hp.some; clear hp; have HTR := hid htr; have HB1 := hid hb1; have HD := hid (fun W hk hs => HCN.out _ _ _ htr W hk hs); clear htr hb1)
        | (go_at_call 22; refine (HD.out _ ((Kept.refl _).alloc (Nat.le_refl _) _) (by simp)).mono ?_; rintro e w2 ⟨rfl, hb2⟩; have HB2 := hid hb2; have HR2 := hid (df_ready (o2 := .cells #[.int .i64 0, .int .i64 0] 53) HTR.out hb2); have KB := hid (block_below (heap_new w1 (.cells #[.string pa, .slice pp pl pc] 46) _ rfl) hb2 (by simp)); have k2 := cells_of_pair KB.out; have k3 := fun o => cells_of_pair (pair_alloc KB.out o); clear hb2))
      go_ret2
      have s1 := HB1.out.size
      have s2 := HB2.out.size
      simp at s2
      have hbb := HB1.out.trans (((Below.refl _ _).alloc s1 _).trans (HB2.out.mono (by simp; omega)))
      have hb3 := (hbb.alloc (by omega) _).trans (below_maker HG3.out (by omega) (by simp; omega))
      exact HFT.out _ _ (hb3.trans (hb4.mono hb3.size))
end Go.Proofs.YtfgkjgooaiolcaaGreatDoor

namespace Go.Proofs.YtfgkjgooaiolcaaGreatDoor
open Go.RowKit

theorem readTm_empty : readTm ByteArray.empty = none := by
  have hp : parse ByteArray.empty = none := by rfl
  cases h : readTm ByteArray.empty with
  | none => rfl
  | some m => obtain ⟨t, h1, _⟩ := readTm_inv h; rw [hp] at h1; cases h1
/-- What DefineSize answers. -/
def dsX (o : Option ByteArray) : Int := sizeOfT (o.getD ByteArray.empty)
theorem dsX_none : dsX none = -1 := sizeOf_none readTm_empty
theorem dfX_size {o : Option Ty} {k : Int} (hw : ∀ ty, o = some ty → ty.wf = true) : ((dfX o k).getD ByteArray.empty).size ≤ 400000000 := by
  cases o with
  | none => exact Nat.zero_le _
  | some ty =>
    have hwf := hw ty rfl
    rw [dfX]
    split
    · rename_i h
      obtain ⟨cn, hcn, _⟩ := cntV_pos h.1 h.2
      have hlen := smt_len (dt_sm ty (kn_of ty cn hwf hcn) k.toNat 0) (lt_12 hwf hcn)
      unfold tmX
      split
      · show (Tree.txt _).size ≤ _
        rw [txt_size]; omega
      · exact Nat.zero_le _
    · exact Nat.zero_le _

set_option maxRecDepth 100000 in
set_option maxHeartbeats 1000000 in
theorem implDefineSize_any (s : ByteArray) (hs : s.size ≤ 400000000) (k : Int) (w : World) : Calls Tryz.prog 7 #[.string s, .int .i64 k] w fun e w' => e = .returned (.int .i64 (dsX (dfX (readTy s) k))) ∧ Below w.heap.size w w' := by
  have HB := hid (fun W => implDefine_any s hs k W)
  have hsz := dfX_size (o := readTy s) (k := k) (fun ty h => readTy_wf h)
  obtain ⟨o, ho⟩ : ∃ o, dfX (readTy s) k = o := ⟨_, rfl⟩
  rw [ho] at HB hsz ⊢
  have HT := hid (fun W => implTermSize_any (o.getD ByteArray.empty) hsz W)
  have HD := hid (show sizeOfT (o.getD ByteArray.empty) = dsX o from rfl)
  obtain ⟨X, hX⟩ : ∃ X, o.getD ByteArray.empty = X := ⟨_, rfl⟩
  have HP := hid (fun W e W' (h : TxPost o W e W') => (show e = .returned (.tuple #[.string X, .bool o.isSome]) ∧ Below W.heap.size W W' from by rw [← hX]; exact h))
  rw [hX] at HT HD
  clear hX hsz ho
  go_enter Tryz.func7, Tryz.ntmps7
  go_wp2_with (first | (go_at_call 11; have _ := hb1; refine (HT.out _).mono ?_; rintro e w2 ⟨rfl, hb2⟩) | (go_at_call 9; refine (HB.out _).mono ?_; rintro e w1 hp; obtain ⟨rfl, hb1⟩ := HP.out _ _ _ hp; clear hp))
  go_ret
  exact ⟨ret_int HD.out, hb1.trans (hb2.mono hb1.size)⟩

set_option maxRecDepth 100000 in
set_option maxHeartbeats 1000000 in
theorem specDefineSize_any (s : ByteArray) (hs : s.size ≤ 400000000) (k : Int) (w : World) : Calls Tryz.prog 8 #[.string s, .int .i64 k] w fun e w' => e = .returned (.int .i64 (dsX (dfX (readTy s) k))) ∧ Below w.heap.size w w' := by
  have HB := hid (fun W => specDefine_any s hs k W)
  have hsz := dfX_size (o := readTy s) (k := k) (fun ty h => readTy_wf h)
  obtain ⟨o, ho⟩ : ∃ o, dfX (readTy s) k = o := ⟨_, rfl⟩
  rw [ho] at HB hsz ⊢
  cases o with
  | none =>
    have HD := hid dsX_none
    have HP := hid (fun W e W' (h : TxPost none W e W') => (show e = .returned (.tuple #[.string ByteArray.empty, .bool false]) ∧ Below W.heap.size W W' from h))
    clear hsz ho
    go_enter Tryz.func8, Tryz.ntmps8
    go_wp2_with (go_at_call 12; refine (HB.out _).mono ?_; rintro e w1 hp; obtain ⟨rfl, hb1⟩ := HP.out _ _ _ hp; clear hp)
    go_ret
    exact ⟨ret_int HD.out.symm, hb1⟩
  | some X =>
    have HT := hid (fun W => specTermSize_any X hsz W)
    have HD := hid (show sizeOfT X = dsX (some X) from rfl)
    have HP := hid (fun W e W' (h : TxPost (some X) W e W') => (show e = .returned (.tuple #[.string X, .bool true]) ∧ Below W.heap.size W W' from h))
    clear hsz ho
    go_enter Tryz.func8, Tryz.ntmps8
    go_wp2_with (first | (go_at_call 15; have _ := hb1; refine (HT.out _).mono ?_; rintro e w2 ⟨rfl, hb2⟩) | (go_at_call 12; refine (HB.out _).mono ?_; rintro e w1 hp; obtain ⟨rfl, hb1⟩ := HP.out _ _ _ hp; clear hp))
    go_ret
    exact ⟨ret_int HD.out, hb1.trans (hb2.mono hb1.size)⟩

set_option maxHeartbeats 1000000 in
theorem lawDefineSize (s : ByteArray) (hs : s.size ≤ 9223372036854775807) (k : Int) (w : World) : Calls Tryz.prog 5 #[.string s, .int .i64 k] w fun e w' => e = .returned (.bool true) ∧ Below w.heap.size w w' := by
  by_cases h : s.size ≤ 1048576
  · have HA := hid (fun W => specDefineSize_any s (by omega) k W)
    have HB := hid (fun W => implDefineSize_any s (by omega) k W)
    obtain ⟨X, hX⟩ : ∃ X, dsX (dfX (readTy s) k) = X := ⟨_, rfl⟩
    rw [hX] at HA HB
    have hq : (X != X) = false := by simp
    clear hX
    go_enter Tryz.func5, Tryz.ntmps5
    go_wp2_with (first | (go_at_call 8; refine (HA.out _).mono ?_; rintro e w1 ⟨rfl, hb1⟩) | (go_at_call 7; refine (HB.out _).mono ?_; rintro e w2 ⟨rfl, hb2⟩))
    go_ret
    exact ⟨rfl, hb1.trans (hb2.mono hb1.size)⟩
  · have h2 : 1048576 < s.size := by omega
    clear h
    go_enter Tryz.func5, Tryz.ntmps5
    go_wp2
    go_ret
    exact ⟨rfl, Below.refl _ _⟩
end Go.Proofs.YtfgkjgooaiolcaaGreatDoor

namespace Go.Proofs.YtfgkjgooaiolcaaGreatDoor
open Go.RowKit

/-- How many spaces stand in a row. -/
def spc (l : List UInt8) : Nat := l.count 32
theorem spc_append (a b : List UInt8) : spc (a ++ b) = spc a + spc b := List.count_append ..
theorem spc_atom {l : List UInt8} (h : ∀ b ∈ l, atomB b.toNat = true) : spc l = 0 := by
  refine List.count_eq_zero.2 fun hm => ?_
  have := h 32 hm
  revert this; decide
mutual
theorem write_spc : ∀ t : Tree, t.wk → spc t.write + 1 = t.size
  | .atom s, h => by
    rw [Tree.wk] at h
    rw [Tree.write, Tree.size, spc_atom h.2]
  | .node [], h => by rw [Tree.wk] at h; exact absurd rfl h.1
  | .node (p :: ps), h => by
    rw [Tree.wk, Tree.wks] at h
    have h1 := write_spc p h.2.1
    have h2 := writes_spc ps h.2.2
    rw [Tree.write, Tree.size, Tree.sizes]
    have e : spc (40 :: (p.write ++ (Tree.writes ps ++ [41]))) = spc p.write + spc (Tree.writes ps) := by
      show List.count 32 (40 :: (p.write ++ (Tree.writes ps ++ [41]))) = _
      rw [List.count_cons, List.count_append, List.count_append]
      simp [spc]
    rw [e]; omega
theorem writes_spc : ∀ ps : List Tree, Tree.wks ps → spc (Tree.writes ps) = Tree.sizes ps
  | [], _ => rfl
  | p :: ps, h => by
    rw [Tree.wks] at h
    have h1 := write_spc p h.1
    have h2 := writes_spc ps h.2
    rw [Tree.writes, Tree.sizes]
    have e : spc (32 :: (p.write ++ Tree.writes ps)) = 1 + (spc p.write + spc (Tree.writes ps)) := by
      show List.count 32 (32 :: (p.write ++ Tree.writes ps)) = _
      rw [List.count_cons, List.count_append]
      simp [spc]; omega
    rw [e]; omega
end
theorem tm_spc {T : Tree} {m : Tm} (h : readTm T.txt = some m) : m.size = spc T.write + 1 := by
  obtain ⟨t, hp, ht⟩ : ∃ t, parse T.txt = some t ∧ t.tm [] = some m := by
    obtain ⟨t, h1, h2, _⟩ := readTm_inv h
    exact ⟨t, h1, h2⟩
  rw [← tm_size t [] m ht, ← write_spc t (parse_wk hp).1, ← parse_write hp]
  rfl
/-- The defining term of a thunk, beside that of its computation. -/
theorem ds_thunk {c : Ty} {k : Int} {n : Int} (h : dsX (dfX (some c) k) = n) (hn : 0 ≤ n) : dsX (dfX (some (.thunk c)) k) = -1 ∨ dsX (dfX (some (.thunk c)) k) = n + 1 := by
  have hc : (Ty.thunk c).cnt = c.cnt := by rw [Ty.cnt]
  unfold dfX at h ⊢
  simp only at h ⊢
  rw [hc]
  split at h
  · rename_i hk
    rw [if_pos hk]
    rw [Ty.dt]
    unfold tmX at h ⊢
    split at h
    · rename_i h1
      obtain ⟨m0, hm0⟩ := Option.isSome_iff_exists.1 h1
      split
      · rename_i h2
        obtain ⟨m, hm⟩ := Option.isSome_iff_exists.1 h2
        right
        have e1 : dsX (some (c.dt k.toNat 0).1.txt) = (m0.size : Int) := by rw [dsX]; exact sizeOf_some hm0
        rw [e1] at h
        have e2 : dsX (some (Tree.node [.atom wThunk, (c.dt k.toNat 0).1]).txt) = (m.size : Int) := by rw [dsX]; exact sizeOf_some hm
        rw [e2, ← h, tm_spc hm, tm_spc hm0]
        have e : spc (Tree.node [.atom wThunk, (c.dt k.toNat 0).1]).write = spc (c.dt k.toNat 0).1.write + 1 := by
          rw [Tree.write, Tree.writes, Tree.writes, Tree.write]
          show List.count 32 (40 :: (wThunk.data.toList ++ (32 :: ((c.dt k.toNat 0).1.write ++ []) ++ [41]))) = _
          rw [List.count_cons, List.count_append, List.count_append, List.count_cons, List.count_append]
          have : List.count 32 wThunk.data.toList = 0 := by decide
          rw [this]
          simp [spc]
        rw [e]; omega
      · left; exact dsX_none
    · exfalso; rw [dsX_none] at h; omega
  · exfalso; rw [dsX_none] at h; omega
theorem ds_small {s : ByteArray} {k D : Int} (h : dsX (dfX (readTy s) k) = D) : D ≤ 1000000 := by
  rw [← h]
  unfold dsX sizeOfT
  split
  · rename_i m hm
    obtain ⟨t, _, _, _, h5⟩ := readTm_inv hm
    omega
  · decide
theorem ds_some {s : ByteArray} {k n : Int} (h : dsX (dfX (readTy s) k) = n) (hn : 0 ≤ n) : ∃ ty x, readTy s = some ty ∧ dfX (readTy s) k = some x ∧ sizeOfT x = n := by
  cases hr : readTy s with
  | none => exfalso; rw [hr] at h; have : dsX (dfX none k) = -1 := dsX_none; omega
  | some ty =>
    rw [hr] at h
    cases hd : dfX (some ty) k with
    | none => exfalso; rw [hd, dsX_none] at h; omega
    | some x => exact ⟨ty, x, rfl, rfl, by rw [hd] at h; exact h⟩
end Go.Proofs.YtfgkjgooaiolcaaGreatDoor

namespace Go.Proofs.YtfgkjgooaiolcaaGreatDoor
open Go.RowKit

set_option maxRecDepth 100000 in
set_option maxHeartbeats 4000000 in
theorem lawDefineSizeD {w : World} {p : Option Addr} {n c : Nat} {bs : List Int} (hl : bs.length = n) (hn : n ≤ 9223372036854775807) (hz : ∀ z ∈ bs, 0 ≤ z ∧ z ≤ 255) (hp : ∀ g o s, p = some ⟨g, o, s⟩ → n = 0 ∨ g < w.heap.size) (hv : Vals w p (u8s bs)) (hc : n ≤ c) :
    Calls Tryz.prog 3 #[.slice p n c] w fun e w' => e = .returned (.bool true) ∧ Below w.heap.size w w' := by
  by_cases h : n ≤ 1048576
  · have HD := hid (drawDefineSize_any hl (by omega) hz hp hv hc)
    clear hl hz hp hv
    go_enter Tryz.func3, Tryz.ntmps3
    go_wp2_with fail
    go_at_call 6
    refine HD.out.mono ?_
    rintro e w1 ⟨s, k, rfl, hs, hb1⟩
    have HB1 := hid hb1
    clear hb1
    have HB := hid (fun W => implDefineSize_any s (by omega) k W)
    have HA := hid (fun W => specDefineSize_any s (by omega) k W)
    obtain ⟨D, hD⟩ : ∃ D, dsX (dfX (readTy s) k) = D := ⟨_, rfl⟩
    rw [hD] at HA HB
    have hq : (D != D) = false := by simp
    have hq2 : (D == D) = true := by simp
    by_cases hneg : D < 0
    · go_wp2_with fail
      go_at_call 7
      refine (HB.out _).mono ?_
      rintro e w2 ⟨rfl, hb2⟩
      have HB2 := hid (HB1.out.trans (hb2.mono HB1.out.size))
      clear hb2
      go_wp2_with fail
      go_at_call 8
      refine (HA.out _).mono ?_
      rintro e w3 ⟨rfl, hb3⟩
      have HB3 := hid (HB2.out.trans (hb3.mono HB2.out.size))
      clear hb3
      go_wp2_with fail
      go_ret
      exact ⟨rfl, HB3.out⟩
    · obtain ⟨ty, x, hr, hx, hsx⟩ := ds_some hD (by omega)
      have hxs := dfX_size (o := readTy s) (k := k) (fun ty h => (readTy_wf h))
      rw [hx] at hxs
      have HDF := hid (fun W => (show Calls Tryz.prog 9 #[.string s, .int .i64 k] W fun e w' => e = .returned (.tuple #[.string x, .bool true]) ∧ Below W.heap.size W w' from by
        have h1 := implDefine_any s (by omega) k W
        rw [hx] at h1; exact h1))
      have HSZ := hid (fun W => (show Calls Tryz.prog 11 #[.string x] W fun e w' => e = .returned (.int .i64 D) ∧ Below W.heap.size W w' from by
        have h1 := implTermSize_any x hxs W
        rw [hsx] at h1; exact h1))
      have HTH := hid (fun W => implTypeThunk_any s (by omega) W)
      obtain ⟨T, Q, hT, hTs, hN⟩ : ∃ (T : ByteArray) (Q : Bool), thunkR s = .tuple #[.string T, .bool Q] ∧ T.size ≤ 100 ∧ (Q = false ∨ dsX (dfX (readTy T) k) = -1 ∨ dsX (dfX (readTy T) k) = D + 1) := by
        rcases lw_thunkR s with ⟨c, h1, h2, h3, h4, h5⟩ | h
        · refine ⟨_, _, h5, by rw [thunkS_size]; omega, Or.inr ?_⟩
          rw [h3]
          rw [h1] at hD
          exact ds_thunk hD (by omega)
        · exact ⟨_, _, h, by decide, Or.inl rfl⟩
      have HDT := hid (fun W => implDefineSize_any T (by omega) k W)
      obtain ⟨E, hE⟩ : ∃ E, dsX (dfX (readTy T) k) = E := ⟨_, rfl⟩
      rw [hE] at HDT hN
      rw [hT] at HTH
      have HD5 := hid (ds_small hD)
      clear hD hr hx hsx hxs hT hE
      go_wp2_with fail
      go_at_call 7
      refine (HB.out _).mono ?_
      rintro e w2 ⟨rfl, hb2⟩
      have HB2 := hid (HB1.out.trans (hb2.mono HB1.out.size))
      clear hb2
      go_wp2_with fail
      go_at_call 8
      refine (HA.out _).mono ?_
      rintro e w3 ⟨rfl, hb3⟩
      have HB3 := hid (HB2.out.trans (hb3.mono HB2.out.size))
      clear hb3
      go_wp2_with fail
      go_at_call 9
      refine (HDF.out _).mono ?_
      rintro e w4 ⟨rfl, hb4⟩
      have HB4 := hid (HB3.out.trans (hb4.mono HB3.out.size))
      clear hb4
      go_wp2_with fail
      go_at_call 10
      refine (HTH.out _).mono ?_
      rintro e w5 ⟨rfl, hb5⟩
      have HB5 := hid (HB4.out.trans (hb5.mono HB4.out.size))
      clear hb5
      go_wp2_with fail
      go_at_call 7
      refine (HDT.out _).mono ?_
      rintro e w6 ⟨rfl, hb6⟩
      have HB6 := hid (HB5.out.trans (hb6.mono HB5.out.size))
      clear hb6
      rcases hN with rfl | rfl | rfl
      · go_wp2_with (go_at_call 11; refine (HSZ.out _).mono ?_; rintro e w7 ⟨rfl, hb7⟩; have HB7 := hid (HB6.out.trans (hb7.mono HB6.out.size)); clear hb7)
        go_ret
        exact ⟨rfl, HB7.out⟩
      · cases Q
        all_goals
          go_wp2_with (go_at_call 11; refine (HSZ.out _).mono ?_; rintro e w7 ⟨rfl, hb7⟩; have HB7 := hid (HB6.out.trans (hb7.mono HB6.out.size)); clear hb7)
          go_ret
          exact ⟨rfl, HB7.out⟩
      · have hD5 : D ≤ 1000000 := HD5.out
        have he1 : (D + 1 == -1) = false := beq_eq_false_iff_ne.2 (by omega)
        have he2 : (D + 1 == D + 1) = true := by simp
        cases Q
        all_goals
          go_wp2_with (go_at_call 11; refine (HSZ.out _).mono ?_; rintro e w7 ⟨rfl, hb7⟩; have HB7 := hid (HB6.out.trans (hb7.mono HB6.out.size)); clear hb7)
          go_ret
          exact ⟨rfl, HB7.out⟩

  · have h2 : 1048576 < n := by omega
    clear h hl hz hp hv
    go_enter Tryz.func3, Tryz.ntmps3
    go_wp2
    go_ret
    exact ⟨rfl, Below.refl _ _⟩
end Go.Proofs.YtfgkjgooaiolcaaGreatDoor
