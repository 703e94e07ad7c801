/- Merged: DfJ, DfL, DfK, DfM. -/
import Derived.Test.YtagifgekhboinaaGreatDoorDA0
import Derived.Test.YtagifgekhboinaaGreatDoorDA34
import Derived.Test.YtagifgekhboinaaGreatDoorDA26
import Derived.Test.YtagifgekhboinaaGreatDoorDA11
import Derived.Test.YtagifgekhboinaaGreatDoorDA22
import Derived.Test.YtagifgekhboinaaGreatDoorDA13
import Derived.Test.YtagifgekhboinaaGreatDoorDA29
import Derived.Test.YtagifgekhboinaaGreatDoorDA28
import Derived.Test.YtagifgekhboinaaGreatDoorDA8
import Derived.Test.YtagifgekhboinaaGreatDoorDASMkU
import Derived.Test.YtagifgekhboinaaGreatDoorDASInS
import Derived.Test.YtagifgekhboinaaGreatDoorDASSpecT
namespace Go.Proofs.YtagifgekhboinaaGreatDoor
open Go.RowKit Go.Maps

/-- A text that is a term. -/
def tmX (t : ByteArray) : Option ByteArray := if (readTm t).isSome then some t else none
/-- What Define answers. -/
def dfX (o : Option Ty) (k : Int) : Option ByteArray := match o with
  | some ty => if 0 ≤ k ∧ k < cntV ty.cnt then tmX (ty.dt k.toNat 0).1.txt else none
  | none => none

set_option maxRecDepth 100000 in
set_option maxHeartbeats 4000000 in
theorem ifTerm_any (t : ByteArray) (ht : t.size ≤ 400000000) (w : World) : Calls Tryz.prog 34 #[.string t] w (TxPost (tmX t) w) := by
  have HC := hid (fun W => readTerm_any t ht W)
  cases hr : readTm t with
  | none =>
    have HR := hid hr
    have HX := hid (show tmX t = none by rw [tmX, hr]; rfl)
    rw [HX.out]
    clear hr
    go_enter Tryz.func34, Tryz.ntmps34
    go_wp2_with (go_at_call 17; refine (HC.out _).mono ?_; rintro e w1 hp; rw [HR.out] at hp; obtain ⟨rfl, hb1⟩ := hp.none; clear hp)
    go_ret2
    exact txPost_none hb1
  | some m =>
    have HR := hid hr
    have HX := hid (show tmX t = some t by rw [tmX, hr]; rfl)
    rw [HX.out]
    clear hr
    go_enter Tryz.func34, Tryz.ntmps34
    go_wp2_with (go_at_call 17; refine (HC.out _).mono ?_; rintro e w1 hp; rw [HR.out] at hp; obtain ⟨a, rfl, hb1, -⟩ := hp.some; clear hp)
    go_ret2
    exact ⟨rfl, hb1⟩

theorem below_trn {b nb : Nat} {w w1 w2 : World} (h : Below w.heap.size w w1) (hb : w.heap.size ≤ b) (hn : w.heap.size ≤ nb) (ht : Trn b nb w1 w2) : Below w.heap.size w w2 :=
  ⟨ht.os.trans h.os, ht.tape.trans h.tape, ht.output.trans h.output, Nat.le_trans h.size ht.size, fun k hk => (ht.block k (Nat.lt_of_lt_of_le hk h.size) (by omega) (by omega)).trans (h.block k hk)⟩

set_option maxRecDepth 100000 in
set_option maxHeartbeats 4000000 in
theorem defining_any (ty : Ty) (hw : ty.wf = true) (hs : ty.write.length ≤ 12000) (k : Int) (w : World) : Calls Tryz.prog 16 #[ty.val, .int .i64 k] w (TxPost (dfX (some ty) k) w) := by
  have HN := hid (fun W => newDefiner_any W)
  obtain ⟨nx, vx, hx⟩ := ty.val_iface
  have HO := hid (fun (b nb : Nat) (W : World) (hd : DIn b nb 0 0 (.map []) W) => (count_any ty hs W b 0 (.map []) hd.own hd.good (by omega)).mono fun e w' hp => hd.count hp)
  obtain ⟨c, hc⟩ : ∃ c, cntV ty.cnt = c := ⟨_, rfl⟩
  rw [hc] at HO
  have hsf := store_fn
  by_cases hin : 0 ≤ k ∧ k < c
  · have HIE := hid (fun W => (show Calls Tryz.prog 32 #[.int .i64 k, .int .i64 c] W fun e w' => e = .returned (.bool true) ∧ W = w' from by have := isElement_any k c W; rw [decide_eq_true hin] at this; exact this))
    obtain ⟨kk, rfl⟩ : ∃ kk : Nat, k = (kk : Int) := ⟨k.toNat, by omega⟩
    obtain ⟨cn, hcn, hcn2⟩ := cntV_pos hin.1 (by rw [hc]; exact hin.2)
    have hkn : kk < cn := by rw [hcn2] at hc; omega
    have hk1 := kn_of ty cn hw hcn
    have hl12 := lt_12 hw hcn
    have hbn := kn_bounds ty hk1
    have hlen := kn_len hk1 hl12
    have hsm := smt_len (dt_sm ty hk1 kk 0) hl12
    have hbud : ty.dbud ≤ 20000 := by
      have h1 := hbn.2.2.2.2
      have h2 : 8 * ty.lt * ty.write.length ≤ 96 * 150 := Nat.mul_le_mul (by omega) hlen
      omega
    have HX := hid (show dfX (some ty) (kk : Int) = tmX (ty.dt kk 0).1.txt by rw [dfX, if_pos (by rw [hc]; exact hin)]; rfl)
    rw [HX.out]
    have HDE := hid (fun (b nb n : Nat) (D : DataW Unit) (W : World) (hd : DIn b nb n 0 D W) (hn : n ≤ 0 + ty.write.length) => define_any ty hk1 hl12 cn hcn kk hkn b nb n 0 D W hd (by omega) (by omega))
    have HIT := hid (fun W => ifTerm_any (ty.dt kk 0).1.txt (by rw [txt_size]; omega) W)
    obtain ⟨T, hT⟩ : ∃ T, (ty.dt kk 0).1.txt = T := ⟨_, rfl⟩
    rw [hT] at HDE HIT
    rw [hT]
    obtain ⟨xa, xd, hxv⟩ := txV_shape (tmX T)
    have HTX := hid (fun W e W' (h : TxPost (tmX T) W e W') => (show e = .returned (.tuple #[.string xa, .bool xd]) ∧ Below W.heap.size W W' from by rw [← hxv]; exact h))
    have HFT := hid (fun W W' (h : Below W.heap.size W W') => (show TxPost (tmX T) W (.returned (.tuple #[.string xa, .bool xd])) W' from by rw [← hxv]; exact ⟨rfl, h⟩))
    rw [hx] at HO HDE
    rw [hx]
    clear hx hw hs hin hcn hcn2 hkn hk1 hl12 hbn hlen hsm hbud hT hxv hc
    go_enter Tryz.func16, Tryz.ntmps16
    go_wp2_with (first
      | (go_at_call 31; refine (HN.out _).mono ?_; rintro e w1 ⟨⟨b, nb, rfl, hgb, hgn, hd1⟩, hb1⟩; have hn1 := hd1.lt; have HD1 := hid (hd1.below ((Below.refl _ _).alloc (Nat.le_refl _) (.cells #[.map (some b), .func (.func 81) #[] #[.pointer (some ⟨nb, 0, none⟩)]] 74))); have HGB := hid hgb; have HGN := hid hgn; have HB1 := hid hb1; have HLT := hid hn1; clear hgb hgn hd1 hb1 hn1)
      | (go_at_call 32; have _ := HD2; refine (HIE.out _).mono ?_; rintro e w9 ⟨rfl, rfl⟩)
      | (go_at_call 33; have _ := HD1; refine (HO.out b nb _ HD1.out).mono ?_; rintro e w2 ⟨rfl, ht2, n2, D2, hn2, hd2⟩; obtain ⟨f1, ht02⟩ := Trn.one w1 _ HLT.out.1 HLT.out.2 ht2; have k1 := Trn.cell (i := 0) f1 rfl; have k2 := Trn.cell (i := 1) f1 rfl; have HT2 := hid ht02; have HN2 := hid hn2; have HD2 := hid hd2; clear ht2 ht02 hn2 hd2 f1)
      | (go_at_call 34; have _ := HD3; refine (HIT.out _).mono ?_; rintro e w4 hp; obtain ⟨rfl, hb4⟩ := HTX.out _ _ _ hp; have HB4 := hid hb4; clear hp hb4)
      | (go_at_call 35; have _ := HD2; refine (HDE.out b nb n2 D2 _ HD2.out HN2.out).mono ?_; rintro e w3 ⟨rfl, ht3, n3, D3, hn3, hd3⟩; have HT3 := hid (HT2.out.trans ht3); have HD3 := hid hd3; clear ht3 hn3 hd3))
    go_ret2
    have hbb := below_trn HB1.out HGB.out HGN.out HT3.out
    exact HFT.out _ _ (hbb.trans (HB4.out.mono hbb.size))
  · have HIE := hid (fun W => (show Calls Tryz.prog 32 #[.int .i64 k, .int .i64 c] W fun e w' => e = .returned (.bool false) ∧ W = w' from by have := isElement_any k c W; rw [decide_eq_false hin] at this; exact this))
    have HX := hid (show dfX (some ty) k = none by rw [dfX, if_neg (by rw [hc]; exact hin)])
    rw [HX.out]
    rw [hx] at HO
    rw [hx]
    clear hx hw hs hin hc
    go_enter Tryz.func16, Tryz.ntmps16
    go_wp2_with (first
      | (go_at_call 31; refine (HN.out _).mono ?_; rintro e w1 ⟨⟨b, nb, rfl, hgb, hgn, hd1⟩, hb1⟩; have hn1 := hd1.lt; have HD1 := hid (hd1.below ((Below.refl _ _).alloc (Nat.le_refl _) (.cells #[.map (some b), .func (.func 81) #[] #[.pointer (some ⟨nb, 0, none⟩)]] 74))); have HGB := hid hgb; have HGN := hid hgn; have HB1 := hid hb1; have HLT := hid hn1; clear hgb hgn hd1 hb1 hn1)
      | (go_at_call 32; have _ := HT2; refine (HIE.out _).mono ?_; rintro e w9 ⟨rfl, rfl⟩)
      | (go_at_call 33; have _ := HD1; refine (HO.out b nb _ HD1.out).mono ?_; rintro e w2 ⟨rfl, ht2, n2, D2, hn2, hd2⟩; obtain ⟨f1, ht02⟩ := Trn.one w1 _ HLT.out.1 HLT.out.2 ht2; have HT2 := hid ht02; clear ht2 ht02 hn2 hd2 f1))
    go_ret2
    exact txPost_none (below_trn HB1.out HGB.out HGN.out HT2.out)
end Go.Proofs.YtagifgekhboinaaGreatDoor

namespace Go.Proofs.YtagifgekhboinaaGreatDoor
open Go.RowKit

theorem sort_none {t : ByteArray} (h : readTm t = none) : (sortOf t).toList = [] := by unfold sortOf; rw [h]; simp [srtS]
theorem sort_some {t : ByteArray} {m : Tm} (h : readTm t = some m) : ((sortOf t).toList == []) = false := by
  unfold sortOf; rw [h]
  cases hv : m.isVal
  · simp only [Option.map_some, hv, srtS]; rw [strC_toList]; rfl
  · simp only [Option.map_some, hv, srtS]; rw [strV_toList]; rfl

set_option maxRecDepth 100000 in
set_option maxHeartbeats 2000000 in
theorem l6dText_any (mb c a : Nat) (hc : c ≤ 900) (ha : a ≤ 12000) (S : Nat → Prop) (t : Tree) (h : Hd) (w : World) (hm : MIn mb c a w) (ht : TIn w S t h) (hsz : t.size ≤ 1500) (hwt : t.wt ≤ 12000) (hln : t.write.length ≤ 12000) :
    Calls Tryz.prog 22 #[.pointer (some ⟨mb, 0, none⟩), .agg #[.string h.a, .slice h.p h.l h.c]] w (TxPost (tmX t.txt) w) := by
  have HMU := hid (fun W (hM : MIn mb c a W) => l6dMuch_any mb c a hc ha W hM)
  have HM := hid (fun o => hm.below ((Below.refl _ _).alloc (Nat.le_refl _) o))
  have HSZ := hid (fun (W : World) (hk : Kept w W) (hw : w.heap.size ≤ W.heap.size) => l1Size_any ht (by omega) W hk hw)
  have HTX := hid (fun (W : World) (hk : Kept w W) (hw : w.heap.size ≤ W.heap.size) => l1Text_any ht hln hwt W hk hw)
  have HSO := hid (fun W => specTermSort_any t.txt (by rw [txt_size]; omega) W)
  have q1 : ¬ (1500 : Int) < (t.size : Int) := by omega
  cases hr : readTm t.txt with
  | none =>
    have HX := hid (show tmX t.txt = none by rw [tmX, hr]; rfl)
    rw [HX.out]
    have q2 := sort_none hr
    obtain ⟨T, hT⟩ : ∃ T, t.txt = T := ⟨_, rfl⟩
    rw [hT] at HTX HSO q2
    obtain ⟨Z, hZ⟩ : ∃ Z, sortOf T = Z := ⟨_, rfl⟩
    rw [hZ] at HSO q2
    have q3 : (Z.toList == []) = true := by rw [q2]; rfl
    clear hm ht hsz hwt hln hr hT hZ hc ha HX
    go_enter Tryz.func22, Tryz.ntmps22
    go_wp2_with (first
      | (go_at_call 44; have _ := hb2; refine (HSO.out _).mono ?_; rintro e w3 ⟨rfl, hb3⟩; have k3 := cells_of_pair (block_below K2.out hb3 (Nat.lt_of_lt_of_le (Nat.lt_of_lt_of_le (by simp) hb1.size) hb2.size)))
      | (go_at_call 45; have _ := hb1; refine (HTX.out _ ((((Kept.refl _).alloc (Nat.le_refl _) _)).below hb1 (by simp)) (Nat.le_trans (by simp) hb1.size)).mono ?_; rintro e w2 ⟨rfl, hb2⟩; have K2 := hid (block_below K1.out hb2 (Nat.lt_of_lt_of_le (by simp) hb1.size)); have k2 := cells_of_pair K2.out)
      | (go_at_call 25; refine (HSZ.out _ ((Kept.refl _).alloc (Nat.le_refl _) _) (by simp)).mono ?_; rintro e w1 ⟨rfl, hb1⟩; have K1 := hid (block_below (heap_new w (.cells #[.string h.a, .slice h.p h.l h.c] 48) _ rfl) hb1 (by simp)); have k1 := cells_of_pair K1.out)
      | (go_at_call 43; refine (HMU.out _ (HM.out _)).mono ?_; rintro e w0 ⟨rfl, rfl⟩))
    go_ret2
    exact txPost_none ((((Below.refl w.heap.size w).alloc (Nat.le_refl _) _).trans (hb1.mono (by simp))).trans ((hb2.mono (Nat.le_trans (by simp) hb1.size)).trans (hb3.mono (Nat.le_trans (Nat.le_trans (by simp) hb1.size) hb2.size))))
  | some m =>
    have HX := hid (show tmX t.txt = some t.txt by rw [tmX, hr]; rfl)
    rw [HX.out]
    have q3 := sort_some hr
    obtain ⟨T, hT⟩ : ∃ T, t.txt = T := ⟨_, rfl⟩
    rw [hT] at HTX HSO q3
    rw [hT]
    obtain ⟨Z, hZ⟩ : ∃ Z, sortOf T = Z := ⟨_, rfl⟩
    rw [hZ] at HSO q3
    clear hm ht hsz hwt hln hr hT hZ hc ha HX
    go_enter Tryz.func22, Tryz.ntmps22
    go_wp2_with (first
      | (go_at_call 45; have _ := hb3; refine (HTX.out _ (((((Kept.refl _).alloc (Nat.le_refl _) _)).below hb1 (by simp)).below (hb2.trans (hb3.mono hb2.size)) (Nat.le_trans (by simp) hb1.size)) (Nat.le_trans (Nat.le_trans (Nat.le_trans (by simp) hb1.size) hb2.size) hb3.size)).mono ?_; rintro e w4 ⟨rfl, hb4⟩)
      | (go_at_call 44; have _ := hb2; refine (HSO.out _).mono ?_; rintro e w3 ⟨rfl, hb3⟩; have k3 := cells_of_pair (block_below K2.out hb3 (Nat.lt_of_lt_of_le (Nat.lt_of_lt_of_le (by simp) hb1.size) hb2.size)))
      | (go_at_call 45; have _ := hb1; refine (HTX.out _ ((((Kept.refl _).alloc (Nat.le_refl _) _)).below hb1 (by simp)) (Nat.le_trans (by simp) hb1.size)).mono ?_; rintro e w2 ⟨rfl, hb2⟩; have K2 := hid (block_below K1.out hb2 (Nat.lt_of_lt_of_le (by simp) hb1.size)); have k2 := cells_of_pair K2.out)
      | (go_at_call 25; refine (HSZ.out _ ((Kept.refl _).alloc (Nat.le_refl _) _) (by simp)).mono ?_; rintro e w1 ⟨rfl, hb1⟩; have K1 := hid (block_below (heap_new w (.cells #[.string h.a, .slice h.p h.l h.c] 48) _ rfl) hb1 (by simp)); have k1 := cells_of_pair K1.out)
      | (go_at_call 43; refine (HMU.out _ (HM.out _)).mono ?_; rintro e w0 ⟨rfl, rfl⟩))
    go_ret2
    exact ⟨rfl, (((Below.refl w.heap.size w).alloc (Nat.le_refl _) _).trans (hb1.mono (by simp))).trans (((hb2.mono (Nat.le_trans (by simp) hb1.size)).trans (hb3.mono (Nat.le_trans (Nat.le_trans (by simp) hb1.size) hb2.size))).trans (hb4.mono (Nat.le_trans (Nat.le_trans (Nat.le_trans (by simp) hb1.size) hb2.size) hb3.size)))⟩
end Go.Proofs.YtagifgekhboinaaGreatDoor

namespace Go.Proofs.YtagifgekhboinaaGreatDoor
open Go.RowKit

theorem readTy_wf {s : ByteArray} {ty : Ty} (h : readTy s = some ty) : ty.wf = true := by
  unfold readTy at h
  split at h
  · rename_i t _
    split at h
    · exact ty_wf t ty h
    · simp at h
  · simp at h
set_option maxRecDepth 100000 in
set_option maxHeartbeats 1000000 in
theorem implDefine_any (s : ByteArray) (hs : s.size ≤ 400000000) (k : Int) (w : World) : Calls Tryz.prog 8 #[.string s, .int .i64 k] w (TxPost (dfX (readTy s) k) w) := by
  have HC := hid (fun W => readType_any s hs W)
  cases hr : readTy s with
  | none =>
    have HR := hid hr
    clear hr
    go_enter Tryz.func8, Tryz.ntmps8
    go_wp2_with (go_at_call 15; refine (HC.out _).mono ?_; rintro e w1 hp; rw [HR.out] at hp; obtain ⟨rfl, hb1⟩ := hp.none; clear hp)
    go_ret2
    exact txPost_none hb1
  | some ty =>
    have HD := hid (fun W => defining_any ty (readTy_wf hr) (readTy_small hr) k W)
    have HR := hid hr
    obtain ⟨xa, xd, hxv⟩ := txV_shape (dfX (some ty) k)
    have HTX := hid (fun W e W' (h : TxPost (dfX (some ty) k) W e W') => (show e = .returned (.tuple #[.string xa, .bool xd]) ∧ Below W.heap.size W W' from by rw [← hxv]; exact h))
    have HFT := hid (fun W W' (h : Below W.heap.size W W') => (show TxPost (dfX (some ty) k) W (.returned (.tuple #[.string xa, .bool xd])) W' from by rw [← hxv]; exact ⟨rfl, h⟩))
    obtain ⟨n, v, hv⟩ := ty.val_iface
    have HV := hid hv
    rw [hv] at HD
    clear hr hxv hv
    go_enter Tryz.func8, Tryz.ntmps8
    go_wp2_with (first | (go_at_call 16; have _ := hb1; refine (HD.out _).mono ?_; rintro e w2 hp; obtain ⟨rfl, hb2⟩ := HTX.out _ _ _ hp; clear hp) | (go_at_call 15; refine (HC.out _).mono ?_; rintro e w1 hp; rw [HR.out] at hp; obtain ⟨he1, hb1⟩ := hp.some; rw [HV.out] at he1; subst he1; clear hp))
    go_ret2
    exact HFT.out _ _ (hb1.trans (hb2.mono hb1.size))
end Go.Proofs.YtagifgekhboinaaGreatDoor

namespace Go.Proofs.YtagifgekhboinaaGreatDoor
open Go.RowKit

theorem below_maker {B mb : Nat} {w w' : World} (hg : w.grownBy w' (some mb)) (hB : B ≤ mb) (hs : B ≤ w.heap.size) : Below B w w' := ⟨hg.os, hg.tape, hg.output, hg.size, fun k hk => hg.block k (by omega) (by simp; omega)⟩
/-- A tree that was read, and a maker behind it. -/
theorem df_ready {w w1 w2 : World} {o o2 : Obj} {t : Tree} {h : Hd} (ht : TIn w1 (fun b => w.heap.size ≤ b) t h) (hb2 : Below (w1.alloc o).heap.size (w1.alloc o) w2) : Own w2.heap.size (fun j => j < w1.heap.size) ∧ TIn (w2.alloc o2) (fun j => j < w1.heap.size) t h := by
  have hz := hb2.size
  simp at hz
  refine ⟨fun j hj => by simp at hj; omega, ht.keep (fun k _ hl => ?_) (fun k _ hl => hl)⟩
  exact ((((Below.refl w1.heap.size w1).alloc (Nat.le_refl _) o).trans (hb2.mono (by simp))).alloc (by omega) o2).block k hl

set_option maxRecDepth 100000 in
set_option maxHeartbeats 4000000 in
theorem specDefine_any (s : ByteArray) (hs : s.size ≤ 400000000) (k : Int) (w : World) : Calls Tryz.prog 11 #[.string s, .int .i64 k] w (TxPost (dfX (readTy s) k) w) := by
  have HC := hid (fun W => l1Type_any s hs W)
  cases ht : typeTree s with
  | none =>
    have HR := hid (typeTree_none ht)
    have HT := hid ht
    rw [HR.out]
    clear ht
    go_enter Tryz.func11, Tryz.ntmps11
    go_wp2_with (go_at_call 19; refine (HC.out _).mono ?_; rintro e w1 hp; rw [HT.out] at hp; obtain ⟨pa, pp, pl, pc, rfl, hpl, hb1⟩ := hp.none; clear hp)
    go_ret2
    exact txPost_none (hb1.alloc hb1.size _)
  | some t =>
    obtain ⟨hpt, hsz, ty, hty, hr, hk⟩ := typeTree_some ht
    have htt := ty_tree t ty hty
    have hwf := readTy_wf hr
    rw [hr]
    have HT := hid ht
    have HCN := hid (fun (w0 : World) (S : Nat → Prop) (h : Hd) (htr : TIn w0 S t h) (W : World) (h1 : Kept w0 W) (h2 : w0.heap.size ≤ W.heap.size) => l1Count_any htr ty hty W h1 h2)
    obtain ⟨c, hc⟩ : ∃ c, cntV ty.cnt = c := ⟨_, rfl⟩
    have hc1 : -1 ≤ c ∧ c ≤ 5000 := by
      rw [← hc]
      cases h : ty.cnt with
      | none => constructor <;> decide
      | some n => have := cnt_range ty n h; constructor <;> (show _ ≤ _) <;> simp only [cntV] <;> omega
    rw [hc] at HCN
    have q1 : IntKind.i64.wrap (c - 1) = c - 1 := IntWalk.i64_in _ (by omega)
    have q2 : wrap64 (c - 1) = c - 1 := IntWalk.wrap64_in _ (by omega)
    have HIN := hid (fun W => l6In_any k 0 (c - 1) W)
    cases hin : decide (0 ≤ k ∧ k ≤ c - 1) with
    | false =>
      rw [hin] at HIN
      have HX := hid (show dfX (some ty) k = none by
        have h2 : ¬ (0 ≤ k ∧ k ≤ c - 1) := of_decide_eq_false hin
        rw [dfX, if_neg (by rw [hc]; omega)])
      rw [HX.out]
      clear ht hpt hsz hty hr hk hin hc hc1 htt hwf
      go_enter Tryz.func11, Tryz.ntmps11
      go_wp2_with (first
        | (go_at_call 20; have _ := hb2; refine (HIN.out _).mono ?_; rintro e w9 ⟨rfl, rfl⟩)
        | (go_at_call 19; refine (HC.out _).mono ?_; rintro e w1 hp; rw [HT.out] at hp; obtain ⟨pa, pp, pl, pc, rfl, hb1, htr⟩ := hp.some; clear hp; have HD := hid (fun W hk hs => HCN.out _ _ _ htr W hk hs); clear htr)
        | (go_at_call 21; refine (HD.out _ ((Kept.refl _).alloc (Nat.le_refl _) _) (by simp)).mono ?_; rintro e w2 ⟨rfl, hb2⟩))
      go_ret2
      have s1 := hb1.size
      exact txPost_none (hb1.trans (((Below.refl _ _).alloc s1 _).trans (hb2.mono (by simp; omega))))
    | true =>
      rw [hin] at HIN
      have h2 : 0 ≤ k ∧ k ≤ c - 1 := of_decide_eq_true hin
      obtain ⟨kk, rfl⟩ : ∃ kk : Nat, k = (kk : Int) := ⟨k.toNat, by omega⟩
      obtain ⟨cn, hcn, hcn2⟩ := cntV_pos h2.1 (by rw [hc]; omega)
      have hkn : kk < cn := by rw [hcn2] at hc; omega
      have hk1 := kn_of ty cn hwf hcn
      have hl12 := lt_12 hwf hcn
      have hbn := kn_bounds ty hk1
      have hdat : ty.dat ≤ 1000 := by have := hbn.1; split at this <;> omega
      have hnm5 := dnm_5 hwf hcn
      have hsm := dt_sm ty hk1 kk 0
      have hlen := smt_len hsm hl12
      have hwt : (ty.dt kk 0).1.wt ≤ 12000 := by have := hsm.2.1; split at this <;> omega
      have hsz1 : (ty.dt kk 0).1.size ≤ 1500 := by have := hsm.1; split at this <;> omega
      have hnm := (dt_nm ty kk 0).2
      have HX := hid (show dfX (some ty) (kk : Int) = tmX (ty.dt kk 0).1.txt by rw [dfX, if_pos (by rw [hc]; omega)]; rfl)
      rw [HX.out]
      have HDF := hid (fun (mb : Nat) (S : Nat → Prop) (hS : Own mb S) (h : Hd) (W : World) (hT : TIn W S t h) (hM : MIn mb 0 0 W) => l6dDefine_any ty hk1 hwf hl12 cn hcn kk hkn mb 0 0 S hS h W (htt ▸ hT) hM (by omega) (by omega))
      have HTE := hid (fun (mb a : Nat) (ha : a ≤ 0 + ty.dat) (S : Nat → Prop) (h : Hd) (W : World) (hM : MIn mb (ty.dt kk 0).2 a W) (hT : TIn W S (ty.dt kk 0).1 h) => l6dText_any mb (ty.dt kk 0).2 a (by omega) (by omega) S _ h W hM hT hsz1 hwt (by omega))
      obtain ⟨n', hn'⟩ : ∃ n', (ty.dt kk 0).2 = n' := ⟨_, rfl⟩
      obtain ⟨T, hT⟩ : ∃ T, (ty.dt kk 0).1 = T := ⟨_, rfl⟩
      obtain ⟨dd, hdd⟩ : ∃ dd, ty.dat = dd := ⟨_, rfl⟩
      rw [hn', hT, hdd] at HDF HTE
      rw [hT]
      obtain ⟨xa, xd, hxv⟩ := txV_shape (tmX T.txt)
      have HTX := hid (fun W e W' (h : TxPost (tmX T.txt) W e W') => (show e = .returned (.tuple #[.string xa, .bool xd]) ∧ Below W.heap.size W W' from by rw [← hxv]; exact h))
      have HFT := hid (fun W W' (h : Below W.heap.size W W') => (show TxPost (tmX T.txt) W (.returned (.tuple #[.string xa, .bool xd])) W' from by rw [← hxv]; exact ⟨rfl, h⟩))
      clear ht hpt hsz hty hr hk hin hc hc1 htt hwf h2 hcn hcn2 hkn hk1 hl12 hbn hdat hnm5 hsm hlen hwt hsz1 hnm hn' hT hdd hxv HX
      go_enter Tryz.func11, Tryz.ntmps11
      go_wp2_with (first
        | (go_at_call 22; have _ := HG3; refine (HTE.out _ _ HA3.out _ _ _ HM3.out HT3.out).mono ?_; rintro e w4 hp; obtain ⟨rfl, hb4⟩ := HTX.out _ _ _ hp; clear hp)
        | (go_at_call 23; have _ := HB2; refine (HDF.out _ _ HR2.out.1 _ _ HR2.out.2 (heap_new w2 _ _ rfl)).mono ?_; rintro e w3 ⟨h3, a3, rfl, hg3, ha3, hm3, ht3⟩; have HG3 := hid hg3; have HA3 := hid ha3; have HM3 := hid hm3; have HT3 := hid ht3; clear hg3 ha3 hm3 ht3)
        | (go_at_call 20; have _ := HB2; refine (HIN.out _).mono ?_; rintro e w9 ⟨rfl, rfl⟩)
        | (go_at_call 19; refine (HC.out _).mono ?_; rintro e w1 hp; rw [HT.out] at hp; obtain ⟨pa, pp, pl, pc, rfl, hb1, htr⟩ := hp.some; clear hp; have HTR := hid htr; have HB1 := hid hb1; have HD := hid (fun W hk hs => HCN.out _ _ _ htr W hk hs); clear htr hb1)
        | (go_at_call 21; refine (HD.out _ ((Kept.refl _).alloc (Nat.le_refl _) _) (by simp)).mono ?_; rintro e w2 ⟨rfl, hb2⟩; have HB2 := hid hb2; have HR2 := hid (df_ready (o2 := .cells #[.int .i64 0, .int .i64 0] 55) HTR.out hb2); have KB := hid (block_below (heap_new w1 (.cells #[.string pa, .slice pp pl pc] 48) _ rfl) hb2 (by simp)); have k2 := cells_of_pair KB.out; have k3 := fun o => cells_of_pair (pair_alloc KB.out o); clear hb2))
      go_ret2
      have s1 := HB1.out.size
      have s2 := HB2.out.size
      simp at s2
      have hbb := HB1.out.trans (((Below.refl _ _).alloc s1 _).trans (HB2.out.mono (by simp; omega)))
      have hb3 := (hbb.alloc (by omega) _).trans (below_maker HG3.out (by omega) (by simp; omega))
      exact HFT.out _ _ (hb3.trans (hb4.mono hb3.size))
end Go.Proofs.YtagifgekhboinaaGreatDoor
