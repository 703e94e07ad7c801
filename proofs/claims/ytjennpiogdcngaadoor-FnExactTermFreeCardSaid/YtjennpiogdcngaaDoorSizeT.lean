/- The atoms of a type and of a term, as the program counts them; TermSize. -/
import Derived.Test.YtjennpiogdcngaaDoorTermR
import Derived.Test.YtjennpiogdcngaaDoorSortT
namespace Go.Proofs.YtjennpiogdcngaaDoor
open Go.RowKit

/-- What a method that lists a type's parts leaves. -/
def KidsOk (l : List Ty) (w : World) (e : Ending) (w' : World) : Prop := ∃ p c, e = .returned (.slice p l.length c) ∧ Vals w' p (l.map Ty.val) ∧ Below w.heap.size w w'
theorem kidsOk_bit (w : World) : Calls Tryd.prog 137 #[.agg #[]] w (KidsOk [] w) := (kids_bit w).mono fun _ _ ⟨he, hb⟩ => ⟨none, 0, he, (fun i v h => by simp at h), hb⟩
theorem kidsOk_pair (x y : Ty) (w : World) : Calls Tryd.prog 141 #[.agg #[x.val, y.val]] w (KidsOk [x, y] w) := (kids_pair x y w).mono fun _ _ ⟨_, he, hh, hb⟩ => ⟨_, _, he, vals_two hh, hb⟩
theorem kidsOk_thunk (x : Ty) (w : World) : Calls Tryd.prog 145 #[.agg #[x.val]] w (KidsOk [x] w) := (kids_thunk x w).mono fun _ _ ⟨_, he, hh, hb⟩ => ⟨_, _, he, vals_one hh, hb⟩
theorem kidsOk_ret (x : Ty) (w : World) : Calls Tryd.prog 149 #[.agg #[x.val]] w (KidsOk [x] w) := (kids_ret x w).mono fun _ _ ⟨_, he, hh, hb⟩ => ⟨_, _, he, vals_one hh, hb⟩
theorem kidsOk_fn (x y : Ty) (w : World) : Calls Tryd.prog 153 #[.agg #[x.val, y.val]] w (KidsOk [x, y] w) := (kids_fn x y w).mono fun _ _ ⟨_, he, hh, hb⟩ => ⟨_, _, he, vals_two hh, hb⟩
theorem kidsOk_choice (x y : Ty) (w : World) : Calls Tryd.prog 157 #[.agg #[x.val, y.val]] w (KidsOk [x, y] w) := (kids_choice x y w).mono fun _ _ ⟨_, he, hh, hb⟩ => ⟨_, _, he, vals_two hh, hb⟩
theorem atomsL_append (a b : List Ty) : Ty.atomsL (a ++ b) = Ty.atomsL a + Ty.atomsL b := by
  induction a with
  | nil => simp [Ty.atomsL]
  | cons x a ih => simp only [List.cons_append, Ty.atomsL, ih]; omega
theorem atomsL_snoc (l : List Ty) (i : Nat) (t : Ty) (h : l[i]? = some t) : Ty.atomsL (l.take (i + 1)) = Ty.atomsL (l.take i) + t.atoms := by
  rw [List.take_add_one, h, Option.toList_some, atomsL_append, Ty.atomsL, Ty.atomsL]; omega
theorem atomsL_take (l : List Ty) (i : Nat) : Ty.atomsL (l.take i) ≤ Ty.atomsL l := by
  have h := atomsL_append (l.take i) (l.drop i)
  rw [List.take_append_drop] at h; omega

set_option maxRecDepth 100000 in
set_option maxHeartbeats 2000000 in
theorem typeAtoms_go (n f : Nat) (v : Value) (l : List Ty) (k : Nat) (hk : l.length = k) (hk2 : k ≤ 2) (hsz : Ty.atomsL l ≤ 100000)
    (he : ∀ args w, (callFunc f args).run Tryd.prog w = .ok (.enter f args) w) (mk : ∀ w, (method 262 n v "loop.example/pushvalue/impl.kids").run Tryd.prog w = .ok (f, v) w) (hkids : ∀ W, Calls Tryd.prog f #[v] W (KidsOk l W))
    (ih : ∀ (i : Nat) (t : Ty), l[i]? = some t → ∀ W, Calls Tryd.prog 71 #[t.val] W fun e w' => e = .returned (.int .i64 (t.atoms : Int)) ∧ Below W.heap.size W w') (w : World) :
    Calls Tryd.prog 71 #[.iface n v] w fun e w' => e = .returned (.int .i64 (1 + (Ty.atomsL l : Int))) ∧ Below w.heap.size w w' := by
  have HK := hid hk
  have HC := hid hkids
  have HIH := hid ih
  clear hk hkids ih
  go_enter Tryd.func71, Tryd.ntmps71
  go_wp2_with (go_at_fn f; refine (HC.out _).mono ?_; rintro e w1 ⟨p, c, rfl, hv, hb1⟩; rw [HK.out])
  have HV := hid hv
  clear hv
  go_loopw [3, 9] (fun a u wr => ∃ i : Nat, i ≤ k ∧ u = .int .i64 (i : Int) ∧ a = .int .i64 (1 + (Ty.atomsL (l.take i) : Int)) ∧ Below w1.heap.size w1 wr) (fun _ u _ => k - (intOf u).toNat)
  case atStart => exact ⟨0, Nat.zero_le _, rfl, by simp [Ty.atomsL], Below.refl _ _⟩
  case round =>
    obtain ⟨i, hi, rfl, rfl, hbel⟩ := hrel
    have hz := hbel.size
    have htk := atomsL_take l i
    by_cases hlt : i < k
    · obtain ⟨t, ht⟩ : ∃ t, l[i]? = some t := ⟨_, List.getElem?_eq_getElem (by rw [HK.out]; exact hlt)⟩
      obtain ⟨b, o, rfl, hc⟩ := HV.out i t.val (by simp [ht])
      have hc' := (hbel.cell (p := ⟨b, o + i, none⟩) (World.block_lt_of_cell? w1 _ hc)).trans hc
      have HT := hid (HIH.out i t ht)
      have hsn := atomsL_snoc l i t ht
      have htk2 := atomsL_take l (i + 1)
      have hbd : Ty.atomsL (l.take i) + t.atoms ≤ 100000 := by omega
      have HSN := hid hsn
      clear hc ht hsn htk2
      go_wp2_with (go_at_call 71; refine (HT.out _).mono ?_; rintro e w2 ⟨rfl, hb2⟩)
      go_roundw
      case rel => exact ⟨i + 1, by omega, by go_num, by rw [HSN.out]; go_num, hbel.trans (hb2.mono hz)⟩
      case measure => simp [intOf]; omega
    · have hin : i = k := by omega
      have HE := hid (show l.take i = l from List.take_of_length_le (by rw [HK.out]; omega))
      clear hin
      go_wp2_with fail
      go_ret
      exact ⟨ret_int (by rw [HE.out]), hb1.trans (hbel.mono hb1.size)⟩
/-- THE PROGRAM's COUNT OF A TYPE's ATOMS. -/
theorem typeAtoms_any : ∀ (t : Ty), t.atoms ≤ 100000 → ∀ w, Calls Tryd.prog 71 #[t.val] w fun e w' => e = .returned (.int .i64 (t.atoms : Int)) ∧ Below w.heap.size w w'
  | .bit, h, w => by
    refine (typeAtoms_go _ _ _ [] 0 rfl (by decide) (by simp [Ty.atomsL]) (enters_of Tryd.func137 (by kernel_rfl) rfl) m_kids_bit kidsOk_bit (fun i t h => by simp at h) w).mono ?_
    rintro e w' ⟨rfl, hb⟩; exact ⟨ret_int (by simp [Ty.atomsL, Ty.atoms]), hb⟩
  | .pair x y, h, w => by
    rw [Ty.atoms] at h
    refine (typeAtoms_go _ _ _ [x, y] 2 rfl (by decide) (by simp [Ty.atomsL]; omega) (enters_of Tryd.func141 (by kernel_rfl) rfl) (m_kids_pair x.val y.val) (kidsOk_pair x y) (fun i t ht => by match i, ht with | 0, ht => simp at ht; subst ht; exact typeAtoms_any x (by omega) | 1, ht => simp at ht; subst ht; exact typeAtoms_any y (by omega)) w).mono ?_
    rintro e w' ⟨rfl, hb⟩; exact ⟨ret_int (by simp [Ty.atomsL, Ty.atoms]), hb⟩
  | .thunk x, h, w => by
    rw [Ty.atoms] at h
    refine (typeAtoms_go _ _ _ [x] 1 rfl (by decide) (by simp [Ty.atomsL]; omega) (enters_of Tryd.func145 (by kernel_rfl) rfl) (m_kids_thunk x.val) (kidsOk_thunk x) (fun i t ht => by match i, ht with | 0, ht => simp at ht; subst ht; exact typeAtoms_any x (by omega)) w).mono ?_
    rintro e w' ⟨rfl, hb⟩; exact ⟨ret_int (by simp [Ty.atomsL, Ty.atoms]), hb⟩
  | .ret x, h, w => by
    rw [Ty.atoms] at h
    refine (typeAtoms_go _ _ _ [x] 1 rfl (by decide) (by simp [Ty.atomsL]; omega) (enters_of Tryd.func149 (by kernel_rfl) rfl) (m_kids_ret x.val) (kidsOk_ret x) (fun i t ht => by match i, ht with | 0, ht => simp at ht; subst ht; exact typeAtoms_any x (by omega)) w).mono ?_
    rintro e w' ⟨rfl, hb⟩; exact ⟨ret_int (by simp [Ty.atomsL, Ty.atoms]), hb⟩
  | .fn x y, h, w => by
    rw [Ty.atoms] at h
    refine (typeAtoms_go _ _ _ [x, y] 2 rfl (by decide) (by simp [Ty.atomsL]; omega) (enters_of Tryd.func153 (by kernel_rfl) rfl) (m_kids_fn x.val y.val) (kidsOk_fn x y) (fun i t ht => by match i, ht with | 0, ht => simp at ht; subst ht; exact typeAtoms_any x (by omega) | 1, ht => simp at ht; subst ht; exact typeAtoms_any y (by omega)) w).mono ?_
    rintro e w' ⟨rfl, hb⟩; exact ⟨ret_int (by simp [Ty.atomsL, Ty.atoms]), hb⟩
  | .choice x y, h, w => by
    rw [Ty.atoms] at h
    refine (typeAtoms_go _ _ _ [x, y] 2 rfl (by decide) (by simp [Ty.atomsL]; omega) (enters_of Tryd.func157 (by kernel_rfl) rfl) (m_kids_choice x.val y.val) (kidsOk_choice x y) (fun i t ht => by match i, ht with | 0, ht => simp at ht; subst ht; exact typeAtoms_any x (by omega) | 1, ht => simp at ht; subst ht; exact typeAtoms_any y (by omega)) w).mono ?_
    rintro e w' ⟨rfl, hb⟩; exact ⟨ret_int (by simp [Ty.atomsL, Ty.atoms]), hb⟩

theorem tmsizes_snoc (ks : List Tm) (i : Nat) (k : Tm) (h : ks[i]? = some k) : Tm.sizes (ks.take (i + 1)) = Tm.sizes (ks.take i) + k.size := by
  rw [List.take_add_one, h, Option.toList_some, tmsizes_append, Tm.sizes, Tm.sizes]; omega
theorem tmsizes_take (ks : List Tm) (i : Nat) : Tm.sizes (ks.take i) ≤ Tm.sizes ks := by
  have h := tmsizes_append (ks.take i) (ks.drop i)
  rw [List.take_append_drop] at h; omega
theorem tm_size_pos : ∀ m : Tm, 1 ≤ m.size
  | .mk _ _ _ _ _ _ => by rw [Tm.size]; omega
theorem tmsizes_length (ks : List Tm) : ks.length ≤ Tm.sizes ks := by
  induction ks with
  | nil => simp
  | cons k ks ih => have := tm_size_pos k; simp only [List.length_cons, Tm.sizes]; omega

set_option maxRecDepth 100000 in
set_option maxHeartbeats 2000000 in
/-- THE PROGRAM's COUNT OF A TERM's ATOMS. -/
theorem size_any {w0 : World} {S : Nat → Prop} {m : Tm} {b : Nat} (hn : NIn w0 S m b) : m.size ≤ 100000 → ∀ w, Kept w0 w → w0.heap.size ≤ w.heap.size →
    Calls Tryd.prog 49 #[.pointer (some ⟨b, 0, none⟩)] w fun e w' => e = .returned (.int .i64 (m.size : Int)) ∧ Below w.heap.size w w' := by
  induction hn with
  | mk hd a d bs ty ks b bp bl bc kp kl kc A hS hb hbl hkl hbn hbv hkv hks ih =>
   intro hsz w hk hw
   rw [Tm.size] at hsz
   have hlt0 := lt_of_block hb
   have c := cells_of_six ((hk b hlt0).trans hb)
   have HLT := hid (show b < w.heap.size by omega)
   have HKL := hid hkl
   have HBL := hid hbl
   have HKV := hid hkv
   have HIH := hid ih
   have HK := hid hk
   clear ih hk hb hbn hbv hS
   cases ty with
  | none =>
    have c4 := c.2.2.2.2.1
    have c3 := c.2.2.2.1
    have c5 := c.2.2.2.2.2.1
    clear c
    simp only [tyV] at c4
    have hsz2 : Tm.sizes ks ≤ 100000 := by omega
    have hkl3 : kl ≤ 100000 := by have := tmsizes_length ks; omega
    have hbl3 : bl ≤ 100000 := by omega
    have HSZ := hid hsz
    clear hsz hbl hkl hks hkv
    go_enter Tryd.func49, Tryd.ntmps49
    go_wp2_with fail
    have hb1 := Below.refl w.heap.size w
    go_loopw [3, 29] (fun a u wr => ∃ i : Nat, i ≤ kl ∧ u = .int .i64 (i : Int) ∧ a = .int .i64 (1 + (bl : Int) + (Tm.sizes (ks.take i) : Int)) ∧ Below w.heap.size w wr) (fun _ u _ => kl - (intOf u).toNat)
    case atStart => exact ⟨0, Nat.zero_le _, rfl, by simp [Tm.sizes], hb1⟩
    case round =>
      obtain ⟨i, hi, rfl, rfl, hbel⟩ := hrel
      have hz := hbel.size
      have htk := tmsizes_take ks i
      by_cases hlt : i < kl
      · obtain ⟨k, hki⟩ : ∃ k, ks[i]? = some k := ⟨_, List.getElem?_eq_getElem (by rw [HKL.out]; exact hlt)⟩
        obtain ⟨g, rfl, _, hc⟩ := HKV.out i _ (ptrs_get A hlt)
        have hkw : Kept w0 wr := HK.out.below hbel (by omega)
        have hc' := hkw.cell hc
        have HC := hid (HIH.out i k hki (by have := tmsizes_snoc ks i k hki; have := tmsizes_take ks (i + 1); omega) wr hkw (by omega))
        have hsn := tmsizes_snoc ks i k hki
        have htk2 := tmsizes_take ks (i + 1)
        have hbd : Tm.sizes (ks.take i) + k.size ≤ 100000 := by omega
        have HSN := hid hsn
        clear hc hki hsn htk2 hkw c5
        go_wp2_with (go_at_call 49; refine HC.out.mono ?_; rintro e w2 ⟨rfl, hb2⟩)
        go_roundw
        case rel => exact ⟨i + 1, by omega, by go_num, by rw [HSN.out]; go_num, hbel.trans (hb2.mono (by omega))⟩
        case measure => simp [intOf]; omega
      · have hin : i = kl := by omega
        have HE := hid (show ks.take i = ks from List.take_of_length_le (by rw [HKL.out]; omega))
        clear hin
        go_wp2_with fail
        go_ret
        exact ⟨ret_int (by rw [HE.out, Tm.size, HBL.out]; simp only [tyAtoms]; omega), hbel⟩
  | some t =>
    have c4 := c.2.2.2.2.1
    have c3 := c.2.2.2.1
    have c5 := c.2.2.2.2.2.1
    clear c
    obtain ⟨tn, tv, htv⟩ := t.val_iface
    have HTA := hid (fun W => typeAtoms_any t (by simp only [tyAtoms] at hsz; omega) W)
    have hta2 : t.atoms ≤ 100000 := by simp only [tyAtoms] at hsz; omega
    simp only [tyV] at c4
    rw [htv] at HTA c4
    clear htv
    have hsz2 : Tm.sizes ks ≤ 100000 := by omega
    have hkl3 : kl ≤ 100000 := by have := tmsizes_length ks; omega
    have hbl3 : bl ≤ 100000 := by omega
    have HSZ := hid hsz
    clear hsz hbl hkl hks hkv
    go_enter Tryd.func49, Tryd.ntmps49
    go_wp2_with (go_at_call 71; refine (HTA.out _).mono ?_; rintro e w1 ⟨rfl, hb1⟩; have kc := (hb1.cell (p := ⟨b, 5, none⟩) HLT.out).trans c5)
    go_loopw [3, 29] (fun a u wr => ∃ i : Nat, i ≤ kl ∧ u = .int .i64 (i : Int) ∧ a = .int .i64 (1 + (bl : Int) + (t.atoms : Int) + (Tm.sizes (ks.take i) : Int)) ∧ Below w.heap.size w wr) (fun _ u _ => kl - (intOf u).toNat)
    case atStart => exact ⟨0, Nat.zero_le _, rfl, by simp [Tm.sizes], hb1⟩
    case round =>
      obtain ⟨i, hi, rfl, rfl, hbel⟩ := hrel
      have hz := hbel.size
      have htk := tmsizes_take ks i
      by_cases hlt : i < kl
      · obtain ⟨k, hki⟩ : ∃ k, ks[i]? = some k := ⟨_, List.getElem?_eq_getElem (by rw [HKL.out]; exact hlt)⟩
        obtain ⟨g, rfl, _, hc⟩ := HKV.out i _ (ptrs_get A hlt)
        have hkw : Kept w0 wr := HK.out.below hbel (by omega)
        have hc' := hkw.cell hc
        have HC := hid (HIH.out i k hki (by have := tmsizes_snoc ks i k hki; have := tmsizes_take ks (i + 1); omega) wr hkw (by omega))
        have hsn := tmsizes_snoc ks i k hki
        have htk2 := tmsizes_take ks (i + 1)
        have hbd : Tm.sizes (ks.take i) + k.size ≤ 100000 := by omega
        have HSN := hid hsn
        clear hc hki hsn htk2 hkw c5
        go_wp2_with (go_at_call 49; refine HC.out.mono ?_; rintro e w2 ⟨rfl, hb2⟩)
        go_roundw
        case rel => exact ⟨i + 1, by omega, by go_num, by rw [HSN.out]; go_num, hbel.trans (hb2.mono (by omega))⟩
        case measure => simp [intOf]; omega
      · have hin : i = kl := by omega
        have HE := hid (show ks.take i = ks from List.take_of_length_le (by rw [HKL.out]; omega))
        clear hin
        go_wp2_with fail
        go_ret
        exact ⟨ret_int (by rw [HE.out, Tm.size, HBL.out]; simp only [tyAtoms]; omega), hbel⟩

/-- What TermSize answers. -/
def sizeOfT (s : ByteArray) : Int := match readTm s with
  | some m => (m.size : Int)
  | none => -1
theorem sizeOf_none {s : ByteArray} (h : readTm s = none) : sizeOfT s = -1 := by rw [sizeOfT, h]
theorem sizeOf_some {s : ByteArray} {m : Tm} (h : readTm s = some m) : sizeOfT s = (m.size : Int) := by rw [sizeOfT, h]
theorem readTm_inv {s : ByteArray} {m : Tm} (h : readTm s = some m) : ∃ t, parse s = some t ∧ t.tm [] = some m ∧ t.size ≤ 1500 ∧ m.size ≤ 1500 := by
  unfold readTm at h
  cases hp : parse s with
  | none => rw [hp] at h; simp at h
  | some t =>
    rw [hp] at h; simp only at h
    split at h
    · rename_i hc; exact ⟨t, rfl, h, hc, by rw [← tm_size t [] m h]; exact hc⟩
    · simp at h
theorem termTree_none {s : ByteArray} (h : termTree s = none) : readTm s = none := by
  have h1 := termTree_read s
  rw [h] at h1
  cases hr : readTm s with
  | none => rfl
  | some m => rw [hr] at h1; simp at h1
theorem termTree_some {s : ByteArray} {t : Tree} (h : termTree s = some t) : parse s = some t ∧ t.srt ≠ none ∧ t.size ≤ 1500 ∧ ∃ m, readTm s = some m ∧ t.tm [] = some m := by
  have h1 := termTree_read s
  rw [h] at h1
  cases hr : readTm s with
  | none => rw [hr] at h1; simp at h1
  | some m =>
    obtain ⟨u, hp, hm, hs, _⟩ := readTm_inv hr
    unfold termTree at h
    rw [hp] at h; simp only at h
    split at h
    · rename_i hc; simp at h; subst h; exact ⟨hp, hc.1, hs, m, rfl, hm⟩
    · simp at h

set_option maxRecDepth 100000 in
set_option maxHeartbeats 1000000 in
theorem implTermSize_any (s : ByteArray) (hs : s.size ≤ 2000000) (w : World) : Calls Tryd.prog 26 #[.string s] w fun e w' => e = .returned (.int .i64 (sizeOfT s)) ∧ Below w.heap.size w w' := by
  have HC := hid (fun W => readTerm_any s hs W)
  cases hr : readTm s with
  | none =>
    have HR := hid hr
    have HS := hid (sizeOf_none hr)
    clear hr
    go_enter Tryd.func26, Tryd.ntmps26
    go_wp2_with (go_at_call 37; refine (HC.out _).mono ?_; rintro e w1 hp; rw [HR.out] at hp; obtain ⟨rfl, hb1⟩ := hp.none; clear hp)
    go_ret
    exact ⟨ret_int HS.out.symm, hb1⟩
  | some m =>
    have HR := hid hr
    have HS := hid (sizeOf_some hr)
    obtain ⟨t, _, _, _, hms⟩ := readTm_inv hr
    clear hr
    go_enter Tryd.func26, Tryd.ntmps26
    go_wp2_with (first | (go_at_call 49; have _ := hb1; refine (HN.out _ (Kept.refl _) (Nat.le_refl _)).mono ?_; rintro e w2 ⟨rfl, hb2⟩) | (go_at_call 37; refine (HC.out _).mono ?_; rintro e w1 hp; rw [HR.out] at hp; obtain ⟨b, rfl, hb1, hn1⟩ := hp.some; clear hp; have HN := hid (size_any hn1 (by omega)); clear hn1))
    go_ret
    exact ⟨ret_int HS.out.symm, hb1.trans (hb2.mono hb1.size)⟩

set_option maxRecDepth 100000 in
set_option maxHeartbeats 1000000 in
theorem specTermSize_any (s : ByteArray) (hs : s.size ≤ 2000000) (w : World) : Calls Tryd.prog 25 #[.string s] w fun e w' => e = .returned (.int .i64 (sizeOfT s)) ∧ Below w.heap.size w w' := by
  have HC := hid (fun W => l2Term_any s hs W)
  cases ht : termTree s with
  | none =>
    have HR := hid (sizeOf_none (termTree_none ht))
    have HT := hid ht
    clear ht
    go_enter Tryd.func25, Tryd.ntmps25
    go_wp2_with (go_at_call 35; refine (HC.out _).mono ?_; rintro e w1 hp; rw [HT.out] at hp; obtain ⟨pa, pp, pl, pc, rfl, hpl, hb1⟩ := hp.none; clear hp)
    go_ret
    exact ⟨ret_int HR.out.symm, hb1.alloc hb1.size _⟩
  | some t =>
    obtain ⟨hpt, hso, hsz, m, hm, htm⟩ := termTree_some ht
    have HR := hid ((sizeOf_some hm).trans (by rw [← tm_size t [] m htm]))
    have HT := hid ht
    have hsz2 : t.size ≤ 12000 := by omega
    clear ht hpt hso hm htm
    go_enter Tryd.func25, Tryd.ntmps25
    go_wp2_with (first | (go_at_call 35; refine (HC.out _).mono ?_; rintro e w1 hp; rw [HT.out] at hp; obtain ⟨pa, pp, pl, pc, rfl, hb1, htr⟩ := hp.some; clear hp; have HD := hid (fun W hk hs => l1Size_any htr hsz2 W hk hs); clear htr) | (go_at_call 48; refine (HD.out _ ((Kept.refl _).alloc (Nat.le_refl _) _) (by simp)).mono ?_; rintro e w2 ⟨rfl, hb2⟩))
    go_ret
    have s1 := hb1.size
    exact ⟨ret_int HR.out.symm, hb1.trans (((Below.refl _ _).alloc s1 _).trans (hb2.mono (by simp; omega)))⟩

set_option maxHeartbeats 1000000 in
theorem lawTermSize (s : ByteArray) (hs : s.size ≤ 9223372036854775807) (w : World) : Calls Tryd.prog 8 #[.string s] w fun e w' => e = .returned (.bool true) ∧ Below w.heap.size w w' := by
  by_cases h : s.size ≤ 1048576
  · have HA := hid (fun W => specTermSize_any s (by omega) W)
    have HB := hid (fun W => implTermSize_any s (by omega) W)
    have hq : (sizeOfT s != sizeOfT s) = false := by simp
    go_enter Tryd.func8, Tryd.ntmps8
    go_wp2_with (first | (go_at_call 25; refine (HA.out _).mono ?_; rintro e w1 ⟨rfl, hb1⟩) | (go_at_call 26; refine (HB.out _).mono ?_; rintro e w2 ⟨rfl, hb2⟩))
    go_ret
    exact ⟨rfl, hb1.trans (hb2.mono hb1.size)⟩
  · have h2 : 1048576 < s.size := by omega
    clear h
    go_enter Tryd.func8, Tryd.ntmps8
    go_wp2
    go_ret
    exact ⟨rfl, Below.refl _ _⟩
end Go.Proofs.YtjennpiogdcngaaDoor
