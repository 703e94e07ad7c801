/- Merged: SizeP, SizeN, SpecU0, PartT, FreeM, SpecU, BindsT. -/
import Derived.Test.YtdeahcejbdcmpaaGreatDoorTu20
import Derived.Test.YtdeahcejbdcmpaaGreatDoorTuSSortT0
import Derived.Test.YtdeahcejbdcmpaaGreatDoorTu8
import Derived.Test.YtdeahcejbdcmpaaGreatDoorTu17
import Derived.Test.YtdeahcejbdcmpaaGreatDoorTu10
namespace Go.Proofs.YtdeahcejbdcmpaaGreatDoor
open Go.RowKit

theorem tmsizes_snoc (ks : List Tm) (i : Nat) (k : Tm) (h : ks[i]? = some k) : Tm.sizes (ks.take (i + 1)) = Tm.sizes (ks.take i) + k.size := by
  rw [List.take_add_one, h, Option.toList_some, tmsizes_append, Tm.sizes, Tm.sizes]; omega
theorem tmsizes_take (ks : List Tm) (i : Nat) : Tm.sizes (ks.take i) ≤ Tm.sizes ks := by
  have h := tmsizes_append (ks.take i) (ks.drop i)
  rw [List.take_append_drop] at h; omega
theorem tm_size_pos : ∀ m : Tm, 1 ≤ m.size
  | .mk _ _ _ _ _ _ => by rw [Tm.size]; omega
theorem tmsizes_length (ks : List Tm) : ks.length ≤ Tm.sizes ks := by
  induction ks with
  | nil => simp
  | cons k ks ih => have := tm_size_pos k; simp only [List.length_cons, Tm.sizes]; omega
theorem readTm_inv {s : ByteArray} {m : Tm} (h : readTm s = some m) : ∃ t, parse s = some t ∧ t.tm [] = some m ∧ t.size ≤ 1500 ∧ m.size ≤ 1500 := by
  unfold readTm at h
  cases hp : parse s with
  | none => rw [hp] at h; simp at h
  | some t =>
    rw [hp] at h; simp only at h
    split at h
    · rename_i hc; exact ⟨t, rfl, h, hc, by rw [← tm_size t [] m h]; exact hc⟩
    · simp at h
theorem termTree_none {s : ByteArray} (h : termTree s = none) : readTm s = none := by
  have h1 := termTree_read s
  rw [h] at h1
  cases hr : readTm s with
  | none => rfl
  | some m => rw [hr] at h1; simp at h1
theorem termTree_some {s : ByteArray} {t : Tree} (h : termTree s = some t) : parse s = some t ∧ t.srt ≠ none ∧ t.size ≤ 1500 ∧ ∃ m, readTm s = some m ∧ t.tm [] = some m := by
  have h1 := termTree_read s
  rw [h] at h1
  cases hr : readTm s with
  | none => rw [hr] at h1; simp at h1
  | some m =>
    obtain ⟨u, hp, hm, hs, _⟩ := readTm_inv hr
    unfold termTree at h
    rw [hp] at h; simp only at h
    split at h
    · rename_i hc; simp at h; subst h; exact ⟨hp, hc.1, hs, m, rfl, hm⟩
    · simp at h
end Go.Proofs.YtdeahcejbdcmpaaGreatDoor

namespace Go.Proofs.YtdeahcejbdcmpaaGreatDoor
open Go.RowKit

/-- What a method that lists a type's parts leaves. -/
def KidsOk (l : List Ty) (w : World) (e : Ending) (w' : World) : Prop := ∃ p c, e = .returned (.slice p l.length c) ∧ Vals w' p (l.map Ty.val) ∧ Below w.heap.size w w'
theorem kidsOk_bit (w : World) : Calls Tryz.prog 291 #[.agg #[]] w (KidsOk [] w) := (kids_bit w).mono fun _ _ ⟨he, hb⟩ => ⟨none, 0, he, (fun i v h => by simp at h), hb⟩
theorem kidsOk_pair (x y : Ty) (w : World) : Calls Tryz.prog 299 #[.agg #[x.val, y.val]] w (KidsOk [x, y] w) := (kids_pair x y w).mono fun _ _ ⟨_, he, hh, hb⟩ => ⟨_, _, he, vals_two hh, hb⟩
theorem kidsOk_thunk (x : Ty) (w : World) : Calls Tryz.prog 303 #[.agg #[x.val]] w (KidsOk [x] w) := (kids_thunk x w).mono fun _ _ ⟨_, he, hh, hb⟩ => ⟨_, _, he, vals_one hh, hb⟩
theorem kidsOk_ret (x : Ty) (w : World) : Calls Tryz.prog 295 #[.agg #[x.val]] w (KidsOk [x] w) := (kids_ret x w).mono fun _ _ ⟨_, he, hh, hb⟩ => ⟨_, _, he, vals_one hh, hb⟩
theorem kidsOk_fn (x y : Ty) (w : World) : Calls Tryz.prog 307 #[.agg #[x.val, y.val]] w (KidsOk [x, y] w) := (kids_fn x y w).mono fun _ _ ⟨_, he, hh, hb⟩ => ⟨_, _, he, vals_two hh, hb⟩
theorem kidsOk_choice (x y : Ty) (w : World) : Calls Tryz.prog 311 #[.agg #[x.val, y.val]] w (KidsOk [x, y] w) := (kids_choice x y w).mono fun _ _ ⟨_, he, hh, hb⟩ => ⟨_, _, he, vals_two hh, hb⟩
theorem atomsL_append (a b : List Ty) : Ty.atomsL (a ++ b) = Ty.atomsL a + Ty.atomsL b := by
  induction a with
  | nil => simp [Ty.atomsL]
  | cons x a ih => simp only [List.cons_append, Ty.atomsL, ih]; omega
theorem atomsL_snoc (l : List Ty) (i : Nat) (t : Ty) (h : l[i]? = some t) : Ty.atomsL (l.take (i + 1)) = Ty.atomsL (l.take i) + t.atoms := by
  rw [List.take_add_one, h, Option.toList_some, atomsL_append, Ty.atomsL, Ty.atomsL]; omega
theorem atomsL_take (l : List Ty) (i : Nat) : Ty.atomsL (l.take i) ≤ Ty.atomsL l := by
  have h := atomsL_append (l.take i) (l.drop i)
  rw [List.take_append_drop] at h; omega

set_option maxRecDepth 100000 in
set_option maxHeartbeats 2000000 in
theorem typeAtoms_go (n f : Nat) (v : Value) (l : List Ty) (k : Nat) (hk : l.length = k) (hk2 : k ≤ 2) (hsz : Ty.atomsL l ≤ 400000000)
    (he : ∀ args w, (callFunc f args).run Tryz.prog w = .ok (.enter f args) w) (mk : ∀ w, (method 411 n v "loop.example/pushvalue/impl.kids").run Tryz.prog w = .ok (f, v) w) (hkids : ∀ W, Calls Tryz.prog f #[v] W (KidsOk l W))
    (ih : ∀ (i : Nat) (t : Ty), l[i]? = some t → ∀ W, Calls Tryz.prog 170 #[t.val] W fun e w' => e = .returned (.int .i64 (t.atoms : Int)) ∧ Below W.heap.size W w') (w : World) :
    Calls Tryz.prog 170 #[.iface n v] w fun e w' => e = .returned (.int .i64 (1 + (Ty.atomsL l : Int))) ∧ Below w.heap.size w w' := by
  have HK := hid hk
  have HC := hid hkids
  have HIH := hid ih
  clear hk hkids ih
  go_enter Tryz.func170, Tryz.ntmps170
  go_wp2_with (go_at_fn f; refine (HC.out _).mono ?_; rintro e w1 ⟨p, c, rfl, hv, hb1⟩; rw [HK.out])
  have HV := hid hv
  clear hv
  go_loopw [3, 9] (fun a u wr => ∃ i : Nat, i ≤ k ∧ u = .int .i64 (i : Int) ∧ a = .int .i64 (1 + (Ty.atomsL (l.take i) : Int)) ∧ Below w1.heap.size w1 wr) (fun _ u _ => k - (intOf u).toNat)
  case atStart => exact ⟨0, Nat.zero_le _, rfl, by simp [Ty.atomsL], Below.refl _ _⟩
  case round =>
    obtain ⟨i, hi, rfl, rfl, hbel⟩ := hrel
    have hz := hbel.size
    have htk := atomsL_take l i
    by_cases hlt : i < k
    · obtain ⟨t, ht⟩ : ∃ t, l[i]? = some t := ⟨_, List.getElem?_eq_getElem (by rw [HK.out]; exact hlt)⟩
      obtain ⟨b, o, rfl, hc⟩ := HV.out i t.val (by simp [ht])
      have hc' := (hbel.cell (p := ⟨b, o + i, none⟩) (World.block_lt_of_cell? w1 _ hc)).trans hc
      have HT := hid (HIH.out i t ht)
      have hsn := atomsL_snoc l i t ht
      have htk2 := atomsL_take l (i + 1)
      have hbd : Ty.atomsL (l.take i) + t.atoms ≤ 400000000 := by omega
      have HSN := hid hsn
      clear hc ht hsn htk2
      go_wp2_with (go_at_call 170; refine (HT.out _).mono ?_; rintro e w2 ⟨rfl, hb2⟩)
      go_roundw
      case rel => exact ⟨i + 1, by omega, by go_num, by rw [HSN.out]; go_num, hbel.trans (hb2.mono hz)⟩
      case measure => simp [intOf]; omega
    · have hin : i = k := by omega
      have HE := hid (show l.take i = l from List.take_of_length_le (by rw [HK.out]; omega))
      clear hin
      go_wp2_with fail
      go_ret
      exact ⟨ret_int (by rw [HE.out]), hb1.trans (hbel.mono hb1.size)⟩
/-- THE PROGRAM's COUNT OF A TYPE's ATOMS. -/
theorem typeAtoms_any : ∀ (t : Ty), t.atoms ≤ 400000000 → ∀ w, Calls Tryz.prog 170 #[t.val] w fun e w' => e = .returned (.int .i64 (t.atoms : Int)) ∧ Below w.heap.size w w'
  | .bit, h, w => by
    refine (typeAtoms_go _ _ _ [] 0 rfl (by decide) (by simp [Ty.atomsL]) (enters_of Tryz.func291 (by kernel_rfl) rfl) m_kids_bit kidsOk_bit (fun i t h => by simp at h) w).mono ?_
    rintro e w' ⟨rfl, hb⟩; exact ⟨ret_int (by simp [Ty.atomsL, Ty.atoms]), hb⟩
  | .pair x y, h, w => by
    rw [Ty.atoms] at h
    refine (typeAtoms_go _ _ _ [x, y] 2 rfl (by decide) (by simp [Ty.atomsL]; omega) (enters_of Tryz.func299 (by kernel_rfl) rfl) (m_kids_pair x.val y.val) (kidsOk_pair x y) (fun i t ht => by match i, ht with | 0, ht => simp at ht; subst ht; exact typeAtoms_any x (by omega) | 1, ht => simp at ht; subst ht; exact typeAtoms_any y (by omega)) w).mono ?_
    rintro e w' ⟨rfl, hb⟩; exact ⟨ret_int (by simp [Ty.atomsL, Ty.atoms]), hb⟩
  | .thunk x, h, w => by
    rw [Ty.atoms] at h
    refine (typeAtoms_go _ _ _ [x] 1 rfl (by decide) (by simp [Ty.atomsL]; omega) (enters_of Tryz.func303 (by kernel_rfl) rfl) (m_kids_thunk x.val) (kidsOk_thunk x) (fun i t ht => by match i, ht with | 0, ht => simp at ht; subst ht; exact typeAtoms_any x (by omega)) w).mono ?_
    rintro e w' ⟨rfl, hb⟩; exact ⟨ret_int (by simp [Ty.atomsL, Ty.atoms]), hb⟩
  | .ret x, h, w => by
    rw [Ty.atoms] at h
    refine (typeAtoms_go _ _ _ [x] 1 rfl (by decide) (by simp [Ty.atomsL]; omega) (enters_of Tryz.func295 (by kernel_rfl) rfl) (m_kids_ret x.val) (kidsOk_ret x) (fun i t ht => by match i, ht with | 0, ht => simp at ht; subst ht; exact typeAtoms_any x (by omega)) w).mono ?_
    rintro e w' ⟨rfl, hb⟩; exact ⟨ret_int (by simp [Ty.atomsL, Ty.atoms]), hb⟩
  | .fn x y, h, w => by
    rw [Ty.atoms] at h
    refine (typeAtoms_go _ _ _ [x, y] 2 rfl (by decide) (by simp [Ty.atomsL]; omega) (enters_of Tryz.func307 (by kernel_rfl) rfl) (m_kids_fn x.val y.val) (kidsOk_fn x y) (fun i t ht => by match i, ht with | 0, ht => simp at ht; subst ht; exact typeAtoms_any x (by omega) | 1, ht => simp at ht; subst ht; exact typeAtoms_any y (by omega)) w).mono ?_
    rintro e w' ⟨rfl, hb⟩; exact ⟨ret_int (by simp [Ty.atomsL, Ty.atoms]), hb⟩
  | .choice x y, h, w => by
    rw [Ty.atoms] at h
    refine (typeAtoms_go _ _ _ [x, y] 2 rfl (by decide) (by simp [Ty.atomsL]; omega) (enters_of Tryz.func311 (by kernel_rfl) rfl) (m_kids_choice x.val y.val) (kidsOk_choice x y) (fun i t ht => by match i, ht with | 0, ht => simp at ht; subst ht; exact typeAtoms_any x (by omega) | 1, ht => simp at ht; subst ht; exact typeAtoms_any y (by omega)) w).mono ?_
    rintro e w' ⟨rfl, hb⟩; exact ⟨ret_int (by simp [Ty.atomsL, Ty.atoms]), hb⟩


set_option maxRecDepth 100000 in
set_option maxHeartbeats 2000000 in
/-- THE PROGRAM's COUNT OF A TERM's ATOMS. -/
theorem size_any {w0 : World} {S : Nat → Prop} {m : Tm} {b : Nat} (hn : NIn w0 S m b) : m.size ≤ 400000000 → ∀ w, Kept w0 w → w0.heap.size ≤ w.heap.size →
    Calls Tryz.prog 116 #[.pointer (some ⟨b, 0, none⟩)] w fun e w' => e = .returned (.int .i64 (m.size : Int)) ∧ Below w.heap.size w w' := by
  induction hn with
  | mk hd a d bs ty ks b bp bl bc kp kl kc A hS hb hbl hkl hbn hbv hkv hks ih =>
   intro hsz w hk hw
   rw [Tm.size] at hsz
   have hlt0 := lt_of_block hb
   have c := cells_of_six ((hk b hlt0).trans hb)
   have HLT := hid (show b < w.heap.size by omega)
   have HKL := hid hkl
   have HBL := hid hbl
   have HKV := hid hkv
   have HIH := hid ih
   have HK := hid hk
   clear ih hk hb hbn hbv hS
   cases ty with
  | none =>
    have c4 := c.2.2.2.2.1
    have c3 := c.2.2.2.1
    have c5 := c.2.2.2.2.2.1
    clear c
    simp only [tyV] at c4
    have hsz2 : Tm.sizes ks ≤ 400000000 := by omega
    have hkl3 : kl ≤ 400000000 := by have := tmsizes_length ks; omega
    have hbl3 : bl ≤ 400000000 := by omega
    have HSZ := hid hsz
    clear hsz hbl hkl hks hkv
    go_enter Tryz.func116, Tryz.ntmps116
    go_wp2_with fail
    have hb1 := Below.refl w.heap.size w
    go_loopw [3, 29] (fun a u wr => ∃ i : Nat, i ≤ kl ∧ u = .int .i64 (i : Int) ∧ a = .int .i64 (1 + (bl : Int) + (Tm.sizes (ks.take i) : Int)) ∧ Below w.heap.size w wr) (fun _ u _ => kl - (intOf u).toNat)
    case atStart => exact ⟨0, Nat.zero_le _, rfl, by simp [Tm.sizes], hb1⟩
    case round =>
      obtain ⟨i, hi, rfl, rfl, hbel⟩ := hrel
      have hz := hbel.size
      have htk := tmsizes_take ks i
      by_cases hlt : i < kl
      · obtain ⟨k, hki⟩ : ∃ k, ks[i]? = some k := ⟨_, List.getElem?_eq_getElem (by rw [HKL.out]; exact hlt)⟩
        obtain ⟨g, rfl, _, hc⟩ := HKV.out i _ (ptrs_get A hlt)
        have hkw : Kept w0 wr := HK.out.below hbel (by omega)
        have hc' := hkw.cell hc
        have HC := hid (HIH.out i k hki (by have := tmsizes_snoc ks i k hki; have := tmsizes_take ks (i + 1); omega) wr hkw (by omega))
        have hsn := tmsizes_snoc ks i k hki
        have htk2 := tmsizes_take ks (i + 1)
        have hbd : Tm.sizes (ks.take i) + k.size ≤ 400000000 := by omega
        have HSN := hid hsn
        clear hc hki hsn htk2 hkw c5
        go_wp2_with (go_at_call 116; refine HC.out.mono ?_; rintro e w2 ⟨rfl, hb2⟩)
        go_roundw
        case rel => exact ⟨i + 1, by omega, by go_num, by rw [HSN.out]; go_num, hbel.trans (hb2.mono (by omega))⟩
        case measure => simp [intOf]; omega
      · have hin : i = kl := by omega
        have HE := hid (show ks.take i = ks from List.take_of_length_le (by rw [HKL.out]; omega))
        clear hin
        go_wp2_with fail
        go_ret
        exact ⟨ret_int (by rw [HE.out, Tm.size, HBL.out]; simp only [tyAtoms]; omega), hbel⟩
  | some t =>
    have c4 := c.2.2.2.2.1
    have c3 := c.2.2.2.1
    have c5 := c.2.2.2.2.2.1
    clear c
    obtain ⟨tn, tv, htv⟩ := t.val_iface
    have HTA := hid (fun W => typeAtoms_any t (by simp only [tyAtoms] at hsz; omega) W)
    have hta2 : t.atoms ≤ 400000000 := by simp only [tyAtoms] at hsz; omega
    simp only [tyV] at c4
    rw [htv] at HTA c4
    clear htv
    have hsz2 : Tm.sizes ks ≤ 400000000 := by omega
    have hkl3 : kl ≤ 400000000 := by have := tmsizes_length ks; omega
    have hbl3 : bl ≤ 400000000 := by omega
    have HSZ := hid hsz
    clear hsz hbl hkl hks hkv
    go_enter Tryz.func116, Tryz.ntmps116
    go_wp2_with (go_at_call 170; refine (HTA.out _).mono ?_; rintro e w1 ⟨rfl, hb1⟩; have kc := (hb1.cell (p := ⟨b, 5, none⟩) HLT.out).trans c5)
    go_loopw [3, 29] (fun a u wr => ∃ i : Nat, i ≤ kl ∧ u = .int .i64 (i : Int) ∧ a = .int .i64 (1 + (bl : Int) + (t.atoms : Int) + (Tm.sizes (ks.take i) : Int)) ∧ Below w.heap.size w wr) (fun _ u _ => kl - (intOf u).toNat)
    case atStart => exact ⟨0, Nat.zero_le _, rfl, by simp [Tm.sizes], hb1⟩
    case round =>
      obtain ⟨i, hi, rfl, rfl, hbel⟩ := hrel
      have hz := hbel.size
      have htk := tmsizes_take ks i
      by_cases hlt : i < kl
      · obtain ⟨k, hki⟩ : ∃ k, ks[i]? = some k := ⟨_, List.getElem?_eq_getElem (by rw [HKL.out]; exact hlt)⟩
        obtain ⟨g, rfl, _, hc⟩ := HKV.out i _ (ptrs_get A hlt)
        have hkw : Kept w0 wr := HK.out.below hbel (by omega)
        have hc' := hkw.cell hc
        have HC := hid (HIH.out i k hki (by have := tmsizes_snoc ks i k hki; have := tmsizes_take ks (i + 1); omega) wr hkw (by omega))
        have hsn := tmsizes_snoc ks i k hki
        have htk2 := tmsizes_take ks (i + 1)
        have hbd : Tm.sizes (ks.take i) + k.size ≤ 400000000 := by omega
        have HSN := hid hsn
        clear hc hki hsn htk2 hkw c5
        go_wp2_with (go_at_call 116; refine HC.out.mono ?_; rintro e w2 ⟨rfl, hb2⟩)
        go_roundw
        case rel => exact ⟨i + 1, by omega, by go_num, by rw [HSN.out]; go_num, hbel.trans (hb2.mono (by omega))⟩
        case measure => simp [intOf]; omega
      · have hin : i = kl := by omega
        have HE := hid (show ks.take i = ks from List.take_of_length_le (by rw [HKL.out]; omega))
        clear hin
        go_wp2_with fail
        go_ret
        exact ⟨ret_int (by rw [HE.out, Tm.size, HBL.out]; simp only [tyAtoms]; omega), hbel⟩

end Go.Proofs.YtdeahcejbdcmpaaGreatDoor

namespace Go.Proofs.YtdeahcejbdcmpaaGreatDoor
open Go.RowKit

theorem hasB_cons (x : ByteArray) (l : List ByteArray) (s : List UInt8) : hasB (x :: l) s = (x.toList == s || hasB l s) := by
  unfold hasB
  rw [List.map_cons, List.contains_cons]
  congr 1
  rw [Bool.eq_iff_iff, beq_iff_eq, beq_iff_eq]; exact ⟨Eq.symm, Eq.symm⟩
set_option maxRecDepth 100000 in
set_option maxHeartbeats 1000000 in
theorem l2Has_any (s : ByteArray) (l : List ByteArray) (p : Option Addr) (n c : Nat) (w : World) (hv : SV w p n c l) (hn : n ≤ 100000) :
    Calls Tryz.prog 95 #[.slice p n c, .string s] w fun e w' => e = .returned (.bool (hasB l s.toList)) ∧ w = w' := by
  have HV := hid hv
  have HL := hid hv.1
  clear hv
  go_enter Tryz.func95, Tryz.ntmps95
  go_wp2_with fail
  go_loop [5] (fun u => ∃ i : Nat, i ≤ n ∧ u = .int .i64 (i : Int) ∧ Hid (hasB l s.toList = hasB (l.drop i) s.toList)) (fun u => n - (intOf u).toNat)
  case atStart => exact ⟨0, Nat.zero_le _, rfl, by show _ = _; rw [List.drop_zero]⟩
  case round =>
    obtain ⟨i, hi, rfl, hd⟩ := hrel
    by_cases hlt : i < n
    · obtain ⟨x, hx⟩ : ∃ x, l[i]? = some x := ⟨_, List.getElem?_eq_getElem (by rw [HL.out]; exact hlt)⟩
      obtain ⟨g, rfl, hc⟩ := HV.out.2.2 i x hx
      have hs : hasB l s.toList = (x.toList == s.toList || hasB (l.drop (i + 1)) s.toList) := by rw [hd.out, drop_at hx, hasB_cons]
      cases hq : x.toList == s.toList with
      | true =>
        rw [hq, Bool.true_or] at hs
        have HS := hid hs
        clear hs hd hx
        go_wp2_with fail
        go_ret
        exact ⟨ret_bool HS.out.symm, rfl⟩
      | false =>
        rw [hq, Bool.false_or] at hs
        have HS := hid hs
        clear hs hd hx
        go_wp2_with fail
        go_round
        case rel => exact ⟨i + 1, by omega, by go_num, HS⟩
        case measure => simp [intOf]; omega
    · have hs : hasB l s.toList = false := by rw [hd.out, List.drop_of_length_le (by rw [HL.out]; omega)]; rfl
      have HS := hid hs
      clear hs hd
      go_wp2_with fail
      go_ret
      exact ⟨ret_bool HS.out.symm, rfl⟩

/-- What a function leaves that returns a list of texts of its own. -/
def OwnS (l : List ByteArray) (w : World) (e : Ending) (w' : World) : Prop :=
  ∃ q c, e = .returned (.slice q l.length c) ∧ w'.ownsRow w.heap.size 9 1 (.slice q l.length c) l.length (l.map Value.string) ∧ Below w.heap.size w w'
theorem own_empty (w : World) (base : Nat) (hb : base ≤ w.heap.size) : (w.alloc (.cells #[] 9)).ownsRow base 9 1 (.slice (some ⟨w.heap.size, 0, none⟩) 0 0) 0 [] := by
  have := World.ownsRow_made (w := w) (base := base) (e := 9) (size := 1) #[] 0 hb (by simp) (by simp)
  simpa using this

set_option maxRecDepth 100000 in
set_option maxHeartbeats 1000000 in
theorem l2Inner_any (q : Tree) (b n cap i : Nat) (a : ByteArray) (c : Sg) (w : World) (hc0 : w.cell? ⟨b, 0, none⟩ = some (.string q.text)) (hn : 0 < n) (hcs : (shape q.text.toList)[i]? = some c) :
    Calls Tryz.prog 103 #[.agg #[.string a, .slice (some ⟨b, 0, none⟩) n cap], .int .i64 ((i : Int) + 1)] w fun e w' => e = .returned (.bool c.isK) ∧ Below w.heap.size w w' := by
  have HF := hid (fun W => l2Shape_any q.text W)
  have hi4 : i < 4 := by have := (List.getElem?_eq_some_iff.1 hcs).1; have := shape_four q.text.toList; omega
  have hFs := loS_size (shape q.text.toList)
  have HFG := hid (fun hi => loS_get (shape q.text.toList) i c hcs hi)
  have hil := (List.getElem?_eq_some_iff.1 hcs).1
  obtain ⟨F, hF⟩ : ∃ F, loS (shape q.text.toList) = F := ⟨_, rfl⟩
  rw [hF] at HF hFs HFG
  have hif : i < F.size := by omega
  have hfc := HFG.out hif
  have kc : ∀ o, (w.alloc o).cell? ⟨b, 0, none⟩ = some (.string q.text) := fun o => (World.cell?_of_block (w := w) (heap_alloc_old w o (World.block_lt_of_cell? w _ hc0))).trans hc0
  have f3 : F.size ≤ 4 := by have := shape_four q.text.toList; omega
  clear hF hFs HFG hil hcs hc0
  cases c with
  | V =>
    have e1 : F[i] = 118 := hfc
    clear hfc
    go_enter Tryz.func103, Tryz.ntmps103
    go_wp2_with (go_at_call 143; refine (HF.out _).mono ?_; rintro e w2 ⟨rfl, rfl⟩)
    go_ret
    exact ⟨ret_bool rfl, (Below.refl _ _).alloc (Nat.le_refl _) _⟩
  | M =>
    have e1 : F[i] = 109 := hfc
    clear hfc
    go_enter Tryz.func103, Tryz.ntmps103
    go_wp2_with (go_at_call 143; refine (HF.out _).mono ?_; rintro e w2 ⟨rfl, rfl⟩)
    go_ret
    exact ⟨ret_bool rfl, (Below.refl _ _).alloc (Nat.le_refl _) _⟩
  | X =>
    have e1 : F[i] = 120 := hfc
    clear hfc
    go_enter Tryz.func103, Tryz.ntmps103
    go_wp2_with (go_at_call 143; refine (HF.out _).mono ?_; rintro e w2 ⟨rfl, rfl⟩)
    go_ret
    exact ⟨ret_bool rfl, (Below.refl _ _).alloc (Nat.le_refl _) _⟩
  | A =>
    have e1 : F[i] = 97 := hfc
    clear hfc
    go_enter Tryz.func103, Tryz.ntmps103
    go_wp2_with (go_at_call 143; refine (HF.out _).mono ?_; rintro e w2 ⟨rfl, rfl⟩)
    go_ret
    exact ⟨ret_bool rfl, (Below.refl _ _).alloc (Nat.le_refl _) _⟩
  | C =>
    have e1 : F[i] = 99 := hfc
    clear hfc
    go_enter Tryz.func103, Tryz.ntmps103
    go_wp2_with (go_at_call 143; refine (HF.out _).mono ?_; rintro e w2 ⟨rfl, rfl⟩)
    go_ret
    exact ⟨ret_bool rfl, (Below.refl _ _).alloc (Nat.le_refl _) _⟩
end Go.Proofs.YtdeahcejbdcmpaaGreatDoor

namespace Go.Proofs.YtdeahcejbdcmpaaGreatDoor
open Go.RowKit

/-- The texts of the parts of a tree in memory. -/
theorem part_texts {w0 : World} {S : Nat → Prop} {q : Tree} {qs : List Tree} {b n : Nat} {A : Nat → Hd} (hn : qs.length = n) (hA : ∀ i, i < n + 1 → w0.cell? ⟨b, i * 2, none⟩ = some (.string (A i).a)) (hps : ∀ i p, (q :: qs)[i]? = some p → TIn w0 S p (A i)) :
    w0.cell? ⟨b, 0, none⟩ = some (.string q.text) ∧ ∀ k p, qs[k]? = some p → w0.cell? ⟨b, (k + 1) * 2, none⟩ = some (.string p.text) := by
  refine ⟨?_, fun k p hp => ?_⟩
  · have := hA 0 (by omega)
    rw [(hps 0 q rfl).text] at this; simpa using this
  · have hk := (List.getElem?_eq_some_iff.1 hp).1
    have := hA (k + 1) (by omega)
    rw [(hps (k + 1) p (by simpa using hp)).text] at this; exact this
theorem OwnS.sv {l : List ByteArray} {w w' : World} {e : Ending} (h : OwnS l w e w') : ∃ q c, e = .returned (.slice q l.length c) ∧ SV w' q l.length c l ∧ Below w.heap.size w w' :=
  let ⟨q, c, he, ho, hb⟩ := h; ⟨q, c, he, sv_own ho, hb⟩
theorem OwnS.full {l : List ByteArray} {w w' : World} {e : Ending} (h : OwnS l w e w') : ∃ q c, e = .returned (.slice q l.length c) ∧ SV w' q l.length c l ∧ (∀ g o, q = some ⟨g, o, none⟩ → w.heap.size ≤ g ∧ g < w'.heap.size) ∧ Below w.heap.size w w' :=
  let ⟨q, c, he, ho, hb⟩ := h; ⟨q, c, he, sv_own ho, own_lt ho, hb⟩
end Go.Proofs.YtdeahcejbdcmpaaGreatDoor

namespace Go.Proofs.YtdeahcejbdcmpaaGreatDoor
open Go.RowKit

theorem frees_snoc (ks : List Tm) (i : Nat) (k : Tm) (h : ks[i]? = some k) : Tm.frees (ks.take (i + 1)) = Tm.frees (ks.take i) ++ k.free := by
  rw [List.take_add_one, h, Option.toList_some, frees_append, Tm.frees, Tm.frees, List.append_nil]
mutual
theorem free_length : ∀ m : Tm, m.free.length ≤ m.size
  | .mk hd a d bs ty ks => by
    rw [Tm.free, Tm.size]
    have := frees_length ks
    split
    · simp; omega
    · omega
theorem frees_length : ∀ ks : List Tm, (Tm.frees ks).length ≤ Tm.sizes ks
  | [] => by simp [Tm.frees]
  | k :: ks => by
    rw [Tm.frees, Tm.sizes, List.length_append]
    have := free_length k
    have := frees_length ks
    omega
end

set_option maxRecDepth 100000 in
set_option maxHeartbeats 2000000 in
theorem freeNames_any {w0 : World} {S : Nat → Prop} {m : Tm} {b : Nat} (hn : NIn w0 S m b) : m.size ≤ 100000 → ∀ w, Kept w0 w → w0.heap.size ≤ w.heap.size →
    Calls Tryz.prog 52 #[.pointer (some ⟨b, 0, none⟩)] w (OwnS m.free w) := by
  induction hn with
  | mk hd a d bs ty ks b bp bl bc kp kl kc A hS hb hbl hkl hbn hbv hkv hks ih =>
    intro hsz w hk hw
    have hfl := free_length (.mk hd a d bs ty ks)
    have hfk := frees_length ks
    rw [Tm.size] at hsz hfl
    have hlt0 := lt_of_block hb
    have c := cells_of_six ((hk b hlt0).trans hb)
    have c0 := c.1
    have c1 := c.2.1
    have c2 := c.2.2.1
    have c5 := c.2.2.2.2.2.1
    have hkl3 : kl ≤ 100000 := by have := tmsizes_length ks; omega
    have hsk : Tm.sizes ks ≤ 100000 := by omega
    have HKL := hid hkl
    have HKV := hid hkv
    have HIH := hid ih
    have HK := hid hk
    clear ih hk hb hbn hbv hS c hkl hkv hks hbl hfl hsz
    by_cases hf : hd.toList = [110, 97, 109, 101] ∧ d = -1
    · have HF := hid (show (Tm.mk hd a d bs ty ks).free = [a] by rw [Tm.free, if_pos hf])
      obtain ⟨h1, h2⟩ := hf
      have e1 : (hd.toList == [110, 97, 109, 101]) = true := by simpa using h1
      have e2 : (d == -1) = true := by simpa using h2
      clear h1 h2
      go_enter Tryz.func52, Tryz.ntmps52
      go_wp2_with fail
      go_ret
      refine ⟨some ⟨w.heap.size, 0, none⟩, 1, ?_, ?_, ?_⟩
      · rw [HF.out]; rfl
      · rw [HF.out]
        exact ⟨rfl, Or.inr ⟨w.heap.size, 1, #[.string a], rfl, Nat.le_refl _, heap_alloc_new w _, Nat.le_refl _, by decide, rfl, rfl⟩⟩
      · exact (Below.refl _ _).alloc (Nat.le_refl _) _
    · have HF := hid (show (Tm.mk hd a d bs ty ks).free = Tm.frees ks by rw [Tm.free, if_neg hf])
      have hfc : (hd.toList == [110, 97, 109, 101]) = false ∨ ((hd.toList == [110, 97, 109, 101]) = true ∧ (d == -1) = false) := by
        cases e1 : hd.toList == [110, 97, 109, 101] with
        | false => exact Or.inl rfl
        | true =>
          refine Or.inr ⟨rfl, ?_⟩
          cases e2 : d == -1 with
          | false => rfl
          | true => exact absurd ⟨by simpa using e1, by simpa using e2⟩ hf
      clear hf
      obtain ⟨i0, hi0, hz0, hz1, hz2⟩ := info_parts Tryz.infoStr
      rcases hfc with e1 | ⟨e1, e2⟩
      all_goals
        go_enter Tryz.func52, Tryz.ntmps52
        go_wp2_with fail
        go_loopw [3, 28] (fun v u wr => ∃ (i k kc : Nat) (q : Option Addr), i ≤ kl ∧ u = .int .i64 (i : Int) ∧ v = .slice q k kc ∧ k ≤ 100000 ∧ wr.ownsRow w.heap.size 9 1 (.slice q k kc) k ((Tm.frees (ks.take i)).map Value.string) ∧ Below w.heap.size w wr ∧ Hid ((Tm.frees (ks.take i)).length = k)) (fun _ u _ => kl - (intOf u).toNat)
        case atStart => exact ⟨0, 0, 0, none, Nat.zero_le _, rfl, rfl, Nat.zero_le _, World.ownsRow_nil _ _ _ _, Below.refl _ _, hid rfl⟩
        case round =>
          obtain ⟨i, k, kc, q, hi, rfl, rfl, hk5, hown, hbel, hkk⟩ := hrel
          have hz := hbel.size
          have HOWN := hid hown
          have HBEL := hid hbel
          have hkw : Kept w0 wr := HK.out.below hbel (by omega)
          clear hown hbel
          by_cases hlt : i < kl
          · obtain ⟨t, hti⟩ : ∃ t, ks[i]? = some t := ⟨_, List.getElem?_eq_getElem (by rw [HKL.out]; exact hlt)⟩
            obtain ⟨g, rfl, _, hc⟩ := HKV.out i _ (ptrs_get A hlt)
            have hc' := hkw.cell hc
            have htk := tmsizes_take ks (i + 1)
            have hsn := tmsizes_snoc ks i t hti
            have hts : t.size ≤ 100000 := by omega
            have HC := hid (HIH.out i t hti hts wr hkw (by omega))
            have hfs := frees_snoc ks i t hti
            have hfl2 := frees_length (ks.take (i + 1))
            have hln : (Tm.frees (ks.take (i + 1))).length = k + t.free.length := by rw [hfs, List.length_append, hkk.out]
            have hkn : k + t.free.length ≤ 100000 := by omega
            have HFS := hid hfs
            have HLN := hid hln
            clear hc hti htk hsn hkw c0 c1 c2 c5 hfs hfl2 hln
            obtain ⟨F, hFF⟩ : ∃ F, t.free = F := ⟨_, rfl⟩
            rw [hFF] at HC HFS hkn HLN
            clear hFF
            go_wp2_with (first | (at_builtin; have _ := hb1; refine wpList_append_sv _ rfl _ _ 22 rfl w.heap.size 9 i0 (.string ByteArray.empty) 16 Tryz.underlying22 hi0 hz0 hz1 hz2 rfl _ _ _ _ rfl (ownsRow_under HOWN.out hb1) _ _ _ F rfl hsv (by unfold maxLen; omega) (by omega) (by have := hb1.size; omega) ?_; intro q2 k2 w2 ho2 hg2; have HO2 := hid ho2; have HG2 := hid hg2; clear ho2 hg2) | (go_at_call 52; refine HC.out.mono ?_; rintro e w1 hp; obtain ⟨q1, c1, rfl, hsv, hb1⟩ := hp.sv; clear hp))
            go_roundw
            case rel =>
              refine ⟨i + 1, k + F.length, k2, q2, by omega, by go_num, rfl, hkn, ?_, ?_, HLN⟩
              · rw [HFS.out, List.map_append]; exact HO2.out
              · exact (HBEL.out.trans (hb1.mono (by omega))).grown HG2.out (by have := hb1.size; omega) (fun k e => (HOWN.out.lt k e).1)
            case measure => simp [intOf]; omega
          · have hin : i = kl := by omega
            have HE := hid (show ks.take i = ks from List.take_of_length_le (by rw [HKL.out]; omega))
            clear hin
            go_wp2_with fail
            go_ret
            refine ⟨q, kc, ?_, ?_, HBEL.out⟩
            · have := hkk.out
              rw [HE.out] at this; rw [HF.out, this]; rfl
            · have := hkk.out
              have h2 := HOWN.out
              rw [HE.out] at this h2; rw [HF.out, this]; exact h2

end Go.Proofs.YtdeahcejbdcmpaaGreatDoor

namespace Go.Proofs.YtdeahcejbdcmpaaGreatDoor
open Go.RowKit

set_option maxRecDepth 100000 in
set_option maxHeartbeats 1000000 in
theorem l2With_any (l1 l2 : List ByteArray) (p1 p2 : Option Addr) (n1 n2 c1 c2 : Nat) (w : World) (h1 : SV w p1 n1 c1 l1) (h2 : SV w p2 n2 c2 l2) (hn1 : n1 ≤ 100000) (hn2 : n2 ≤ 100000) :
    Calls Tryz.prog 106 #[.slice p1 n1 c1, .slice p2 n2 c2] w (OwnS (l1 ++ l2) w) := by
  obtain ⟨i0, hi0, hz0, hz1, hz2⟩ := info_parts Tryz.infoStr
  have H1 := hid (h1.kept ((Kept.refl w).alloc (Nat.le_refl _) (.cells #[] 9)))
  have H2 := hid h2
  have L1 := hid h1.1
  have L2 := hid h2.1
  have HO := hid (own_empty w w.heap.size (Nat.le_refl _))
  clear h1 h2
  go_enter Tryz.func106, Tryz.ntmps106
  go_wp2_with (first | (at_builtin; have _ := HOx; refine wpList_append_sv _ rfl _ _ 22 rfl w.heap.size 9 i0 (.string ByteArray.empty) 16 Tryz.underlying22 hi0 hz0 hz1 hz2 rfl _ _ _ _ rfl HOx.out _ _ _ l2 rfl HS2.out (by unfold maxLen; omega) (by omega) (by have := HG1.out.size; simp at this; omega) ?_; intro q2 k2 w2 ho2 hg2; have HO2 := hid ho2; have HG2 := hid hg2; clear ho2 hg2) | (at_builtin; refine wpList_append_sv _ rfl _ _ 22 rfl w.heap.size 9 i0 (.string ByteArray.empty) 16 Tryz.underlying22 hi0 hz0 hz1 hz2 rfl _ _ _ _ rfl HO.out _ _ _ l1 rfl H1.out (by unfold maxLen; omega) (by omega) (by simp) ?_; intro q1 k1 w1 ho1 hg1; have hb1 := ((Below.refl w.heap.size w).alloc (Nat.le_refl _) (.cells #[] 9)).grown hg1 (by simp) (fun k e => (HO.out.lt k e).1); have HB1 := hid hb1; have HS2 := hid (H2.out.kept (Kept.of_below hb1 (Nat.le_refl _))); simp only [Nat.zero_add, List.nil_append] at ho1; have HOx := hid ho1; have HG1 := hid hg1; clear ho1 hg1 hb1))
  go_ret
  refine ⟨q2, k2, ?_, ?_, ?_⟩
  · rw [List.length_append, L1.out, L2.out]; simp
  · rw [List.length_append, L1.out, L2.out, List.map_append]; simpa using HO2.out
  · exact HB1.out.grown HG2.out HB1.out.size (fun k e => (HOx.out.lt k e).1)
end Go.Proofs.YtdeahcejbdcmpaaGreatDoor

namespace Go.Proofs.YtdeahcejbdcmpaaGreatDoor
open Go.RowKit

/-- The names that are bound in a part. -/
def bnd (last : Bool) (xs : List ByteArray) : List ByteArray := if last = true then xs else []
theorem hasB_bnd (last : Bool) (xs : List ByteArray) (s : List UInt8) : hasB (bnd last xs) s = (last && hasB xs s) := by
  cases last <;> simp [bnd, hasB]
theorem xsOf_length : ∀ (cs : List Sg) (ps : List Tree), (xsOf cs ps).length ≤ ps.length
  | [], _ => by simp [xsOf]
  | c :: cs, [] => by cases c <;> simp [xsOf]
  | c :: cs, p :: ps => by
    have := xsOf_length cs ps
    cases c <;> simp [xsOf] <;> omega
theorem xsOf_step {cs : List Sg} {qs : List Tree} {j : Nat} {c : Sg} {p : Tree} (hc : cs[j]? = some c) (hp : qs[j]? = some p) :
    xsOf (cs.drop j) (qs.drop j) = if c = .X then p.text :: xsOf (cs.drop (j + 1)) (qs.drop (j + 1)) else xsOf (cs.drop (j + 1)) (qs.drop (j + 1)) := by
  rw [drop_at hc, drop_at hp]
  cases c <;> simp [xsOf]
theorem lo_X (c : Sg) (h : c ≠ .X) : ((c.lo.toNat : Int) == 120) = false := by
  cases c <;> first | rfl | exact absurd rfl h
theorem usesL_step {cs : List Sg} {qs : List Tree} {j n : Nat} {c : Sg} {p : Tree} (hn : cs.length = n) (hc : cs[j]? = some c) (hp : qs[j]? = some p) (s : List UInt8) (xs : List ByteArray) :
    Tree.usesL s xs (cs.drop j) (qs.drop j) = (if (c.isK && !hasB (bnd (decide (j + 1 = n)) xs) s) = true then p.uses s else 0) + Tree.usesL s xs (cs.drop (j + 1)) (qs.drop (j + 1)) := by
  have hj := (List.getElem?_eq_some_iff.1 hc).1
  have e : (cs.drop (j + 1) = []) ↔ j + 1 = n := by
    rw [List.drop_eq_nil_iff]; omega
  rw [drop_at hc, drop_at hp, Tree.usesL, hasB_bnd]
  obtain ⟨r, hr⟩ : ∃ r, cs.drop (j + 1) = r := ⟨_, rfl⟩
  rw [hr] at e ⊢
  congr 1
  by_cases hl : j + 1 = n
  · have h1 := e.2 hl
    subst h1
    rw [decide_eq_true hl]
    cases c.isK <;> cases hasB xs s <;> simp
  · have h1 : ¬ r = [] := fun x => hl (e.1 x)
    rw [decide_eq_false hl]
    cases c.isK <;> simp [h1]
mutual
theorem uses_le (s : List UInt8) : ∀ t : Tree, t.uses s ≤ t.wt
  | .atom a => by rw [Tree.uses, Tree.wt]; split <;> omega
  | .node [] => by rw [Tree.uses]; omega
  | .node (h :: ps) => by rw [Tree.uses, Tree.wt, Tree.wts]; have := usesL_le s (xsOf (shape h.text.toList) ps) (shape h.text.toList) ps; omega
theorem usesL_le (s : List UInt8) (xs : List ByteArray) : ∀ (cs : List Sg) (ps : List Tree), Tree.usesL s xs cs ps ≤ Tree.wts ps
  | [], _ => by simp [Tree.usesL]
  | _ :: _, [] => by simp [Tree.usesL]
  | c :: cs, p :: ps => by
    rw [Tree.usesL, Tree.wts]
    have h1 := uses_le s p
    have h2 := usesL_le s xs cs ps
    split <;> omega
end

set_option maxRecDepth 100000 in
set_option maxHeartbeats 1000000 in
theorem l2Binds_not (b N cap : Nat) (a : ByteArray) (j : Int) (w : World) (hj : j < (N : Int) - 1) (hN : N ≤ 100) :
    Calls Tryz.prog 104 #[.agg #[.string a, .slice (some ⟨b, 0, none⟩) N cap], .int .i64 j] w (OwnS [] w) := by
  have HO := hid (own_empty (w.alloc (.cells #[.string a, .slice (some ⟨b, 0, none⟩) N cap] 58)) w.heap.size (by simp))
  go_enter Tryz.func104, Tryz.ntmps104
  go_wp2_with fail
  go_ret
  exact ⟨_, 0, rfl, by simpa using HO.out, ((Below.refl _ _).alloc (Nat.le_refl _) _).alloc (by simp) _⟩

set_option maxRecDepth 100000 in
set_option maxHeartbeats 2000000 in
theorem l2Binds_last (q : Tree) (qs : List Tree) (b N n cap : Nat) (a : ByteArray) (j : Int) (w : World) (hN : N = n + 1) (hn : qs.length = n) (hsl : (shape q.text.toList).length = qs.length) (hj : (N : Int) - 1 ≤ j)
    (hc0 : w.cell? ⟨b, 0, none⟩ = some (.string q.text)) (hT : ∀ k p, qs[k]? = some p → w.cell? ⟨b, (k + 1) * 2, none⟩ = some (.string p.text)) :
    Calls Tryz.prog 104 #[.agg #[.string a, .slice (some ⟨b, 0, none⟩) N cap], .int .i64 j] w (OwnS (xsOf (shape q.text.toList) qs) w) := by
  have HF := hid (fun W => l2Shape_any q.text W)
  have hsz := loS_size (shape q.text.toList)
  have h4 := shape_four q.text.toList
  have HFG := hid (fun i c h hi => loS_get (shape q.text.toList) i c h hi)
  obtain ⟨F, hF⟩ : ∃ F, loS (shape q.text.toList) = F := ⟨_, rfl⟩
  rw [hF] at HF hsz HFG
  have hFn : F.size = n := by omega
  have HFN := hid hFn
  have f3 : F.size ≤ 4 := by omega
  have hN1 : n < N := by omega
  have hN5 : N ≤ 5 := by omega
  have HSL := hid (hsl.trans hn)
  have HN := hid hn
  have HT := hid hT
  have HC0 := hid hc0
  have hd : decide (j < (N : Int) - 1) = false := decide_eq_false (by omega)
  have hlt0 := World.block_lt_of_cell? w _ hc0
  have HO := hid (own_empty (w.alloc (.cells #[.string a, .slice (some ⟨b, 0, none⟩) N cap] 58)) (w.heap.size + 1) (by simp))
  have kc0 : ((w.alloc (.cells #[.string a, .slice (some ⟨b, 0, none⟩) N cap] 58)).alloc (.cells #[] 9)).cell? ⟨b, 0, none⟩ = some (.string q.text) := ((((Kept.refl w).alloc (Nat.le_refl _) _).alloc (by simp) _)).cell hc0
  obtain ⟨cs, hcs⟩ : ∃ cs, shape q.text.toList = cs := ⟨_, rfl⟩
  rw [hcs] at HSL HFG ⊢
  have hFle : n ≤ F.size := by omega
  obtain ⟨i0, hi0, hz0, hz1, hz2⟩ := info_parts Tryz.infoStr
  clear hF hsz hFn hsl hn hT hN hcs h4 hc0
  go_enter Tryz.func104, Tryz.ntmps104
  go_wp2_with (go_at_call 143; refine (HF.out _).mono ?_; rintro e w2 ⟨rfl, rfl⟩)
  go_loopw [5, 7] (fun v u wr => ∃ (i m c g : Nat) (L : List ByteArray), i ≤ F.size ∧ m ≤ i ∧ u = .int .i64 (i : Int) ∧ v = .slice (some ⟨g, 0, none⟩) m c ∧ wr.ownsRow (w.heap.size + 1) 9 1 (.slice (some ⟨g, 0, none⟩) m c) m (L.map Value.string) ∧
      Below (w.heap.size + 1) (w.alloc (.cells #[.string a, .slice (some ⟨b, 0, none⟩) N cap] 58)) wr ∧ Hid (L ++ xsOf (cs.drop i) (qs.drop i) = xsOf cs qs ∧ L.length = m)) (fun _ u _ => F.size - (intOf u).toNat)
  case atStart => exact ⟨0, 0, 0, _, [], Nat.zero_le _, Nat.le_refl _, rfl, rfl, by simpa using HO.out, (Below.refl _ _).alloc (by simp) _, hid ⟨by simp, rfl⟩⟩
  case round =>
    obtain ⟨i, m, c, g, L, hi, hmi, rfl, rfl, hown, hbel, hL⟩ := hrel
    have hz := hbel.size
    simp at hz
    have kc2 := cells_of_pair (block_below (heap_new w (.cells #[.string a, .slice (some ⟨b, 0, none⟩) N cap] 58) w.heap.size rfl) hbel (by omega))
    have kw : Kept w wr := ((Kept.refl w).alloc (Nat.le_refl _) _).below hbel (by omega)
    have HOWN := hid hown
    have HBEL := hid hbel
    clear hown hbel
    by_cases hlt : i < F.size
    · have hin : i < n := by have := HFN.out; omega
      obtain ⟨p, hp⟩ : ∃ p, qs[i]? = some p := ⟨_, List.getElem?_eq_getElem (by rw [HN.out]; exact hin)⟩
      obtain ⟨d, hdc⟩ : ∃ d, cs[i]? = some d := ⟨_, List.getElem?_eq_getElem (by rw [HSL.out]; exact hin)⟩
      have hfc := HFG.out i d hdc hlt
      have ct := kw.cell (HT.out i p hp)
      have hst := xsOf_step hdc hp
      have d2 : i + 1 < N := by omega
      by_cases hX : d = .X
      · subst hX
        rw [if_pos rfl] at hst
        have HL2 := hid (show (L ++ [p.text]) ++ xsOf (cs.drop (i + 1)) (qs.drop (i + 1)) = xsOf cs qs ∧ (L ++ [p.text]).length = m + 1 by
          refine ⟨?_, by simp [hL.out.2]⟩
          rw [List.append_assoc, List.singleton_append, ← hst]; exact hL.out.1)
        have e1 : F[i] = 120 := hfc
        clear hst hfc hdc hp kw hL hd
        go_wp2_with (at_builtin; refine wpList_append_at _ rfl _ _ 22 rfl (w.heap.size + 1) 9 i0 (.string ByteArray.empty) 1 16 Tryz.underlying22 hi0 hz0 hz1 hz2 rfl (by decide) (.slice (some ⟨g, 0, none⟩) m c) m _ rfl (HOWN.out.alloc _) ⟨wr.heap.size, 0, none⟩ 1 1 [.string p.text] rfl rfl (cells_new1 _ _ _ _ rfl) (by intro u hu; simp at hu; subst hu; rfl) (by decide) (by unfold maxLen; omega) (by omega) (by simp; omega) ?_; intro v' w2 hown2 hg2 hw2 hv2; obtain ⟨g2, kc3, rfl⟩ := hv2; have HG := hid hg2; have HO2 := hid hown2; clear hg2 hown2 hw2)
        go_roundw
        case rel =>
          refine ⟨i + 1, m + 1, kc3, g2, L ++ [p.text], by omega, by omega, by go_num, rfl, by rw [List.map_append]; exact HO2.out, ?_, HL2⟩
          exact (HBEL.out.alloc (by omega) _).grown HG.out (by simp; omega) (fun k e => (HOWN.out.lt k e).1)
        case measure => simp [intOf]; omega
      · rw [if_neg hX] at hst
        have e1 : ((F[i].toNat : Int) == 120) = false := by rw [hfc]; exact lo_X d hX
        have HL2 := hid (show L ++ xsOf (cs.drop (i + 1)) (qs.drop (i + 1)) = xsOf cs qs ∧ L.length = m from ⟨by rw [← hst]; exact hL.out.1, hL.out.2⟩)
        clear hst hfc hdc hp kw hL hd hX
        go_wp2_with fail
        go_roundw
        case rel => exact ⟨i + 1, m, c, g, L, by omega, by omega, by go_num, rfl, HOWN.out, HBEL.out, HL2⟩
        case measure => simp [intOf]; omega
    · have he : L = xsOf cs qs := by
        have := hL.out.1
        rw [List.drop_of_length_le (l := cs) (by rw [HSL.out]; have := HFN.out; omega)] at this
        simpa [xsOf] using this
      have HE := hid he
      have HLL := hid hL.out.2
      clear he hL kw hd
      go_wp2_with fail
      go_ret
      refine ⟨some ⟨g, 0, none⟩, c, ?_, ?_, ?_⟩
      · rw [← HE.out, HLL.out]; rfl
      · rw [← HE.out, HLL.out]; exact own_base HOWN.out (by omega)
      · exact ((Below.refl w.heap.size w).alloc (Nat.le_refl _) _).trans (HBEL.out.mono (by omega))

/-- THE NAMES THAT ARE BOUND IN A PART. -/
theorem l2Binds_any (q : Tree) (qs : List Tree) (b N n i cap : Nat) (a : ByteArray) (w : World) (hN : N = n + 1) (hn : qs.length = n) (hi : i < n) (hsl : (shape q.text.toList).length = qs.length)
    (hc0 : w.cell? ⟨b, 0, none⟩ = some (.string q.text)) (hT : ∀ k p, qs[k]? = some p → w.cell? ⟨b, (k + 1) * 2, none⟩ = some (.string p.text)) :
    Calls Tryz.prog 104 #[.agg #[.string a, .slice (some ⟨b, 0, none⟩) N cap], .int .i64 ((i : Int) + 1)] w (OwnS (bnd (decide (i + 1 = n)) (xsOf (shape q.text.toList) qs)) w) := by
  have h4 := shape_four q.text.toList
  by_cases hl : i + 1 = n
  · rw [decide_eq_true hl]
    exact l2Binds_last q qs b N n cap a _ w hN hn hsl (by omega) hc0 hT
  · rw [decide_eq_false hl]
    exact l2Binds_not b N cap a _ w (by omega) (by omega)
end Go.Proofs.YtdeahcejbdcmpaaGreatDoor
