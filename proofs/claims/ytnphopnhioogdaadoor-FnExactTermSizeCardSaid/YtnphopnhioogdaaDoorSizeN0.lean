/- The number of atoms of types and terms, as the program counts them. -/
import Derived.Test.YtnphopnhioogdaaDoorSizeP0
import Derived.Test.YtnphopnhioogdaaDoorTyKids
namespace Go.Proofs.YtnphopnhioogdaaDoor
open Go.RowKit

/-- What a method that lists a type's parts leaves. -/
def KidsOk (l : List Ty) (w : World) (e : Ending) (w' : World) : Prop := ∃ p c, e = .returned (.slice p l.length c) ∧ Vals w' p (l.map Ty.val) ∧ Below w.heap.size w w'
theorem kidsOk_bit (w : World) : Calls Tryd.prog 137 #[.agg #[]] w (KidsOk [] w) := (kids_bit w).mono fun _ _ ⟨he, hb⟩ => ⟨none, 0, he, (fun i v h => by simp at h), hb⟩
theorem kidsOk_pair (x y : Ty) (w : World) : Calls Tryd.prog 141 #[.agg #[x.val, y.val]] w (KidsOk [x, y] w) := (kids_pair x y w).mono fun _ _ ⟨_, he, hh, hb⟩ => ⟨_, _, he, vals_two hh, hb⟩
theorem kidsOk_thunk (x : Ty) (w : World) : Calls Tryd.prog 145 #[.agg #[x.val]] w (KidsOk [x] w) := (kids_thunk x w).mono fun _ _ ⟨_, he, hh, hb⟩ => ⟨_, _, he, vals_one hh, hb⟩
theorem kidsOk_ret (x : Ty) (w : World) : Calls Tryd.prog 149 #[.agg #[x.val]] w (KidsOk [x] w) := (kids_ret x w).mono fun _ _ ⟨_, he, hh, hb⟩ => ⟨_, _, he, vals_one hh, hb⟩
theorem kidsOk_fn (x y : Ty) (w : World) : Calls Tryd.prog 153 #[.agg #[x.val, y.val]] w (KidsOk [x, y] w) := (kids_fn x y w).mono fun _ _ ⟨_, he, hh, hb⟩ => ⟨_, _, he, vals_two hh, hb⟩
theorem kidsOk_choice (x y : Ty) (w : World) : Calls Tryd.prog 157 #[.agg #[x.val, y.val]] w (KidsOk [x, y] w) := (kids_choice x y w).mono fun _ _ ⟨_, he, hh, hb⟩ => ⟨_, _, he, vals_two hh, hb⟩
theorem atomsL_append (a b : List Ty) : Ty.atomsL (a ++ b) = Ty.atomsL a + Ty.atomsL b := by
  induction a with
  | nil => simp [Ty.atomsL]
  | cons x a ih => simp only [List.cons_append, Ty.atomsL, ih]; omega
theorem atomsL_snoc (l : List Ty) (i : Nat) (t : Ty) (h : l[i]? = some t) : Ty.atomsL (l.take (i + 1)) = Ty.atomsL (l.take i) + t.atoms := by
  rw [List.take_add_one, h, Option.toList_some, atomsL_append, Ty.atomsL, Ty.atomsL]; omega
theorem atomsL_take (l : List Ty) (i : Nat) : Ty.atomsL (l.take i) ≤ Ty.atomsL l := by
  have h := atomsL_append (l.take i) (l.drop i)
  rw [List.take_append_drop] at h; omega

set_option maxRecDepth 100000 in
set_option maxHeartbeats 2000000 in
theorem typeAtoms_go (n f : Nat) (v : Value) (l : List Ty) (k : Nat) (hk : l.length = k) (hk2 : k ≤ 2) (hsz : Ty.atomsL l ≤ 400000000)
    (he : ∀ args w, (callFunc f args).run Tryd.prog w = .ok (.enter f args) w) (mk : ∀ w, (method 268 n v "loop.example/pushvalue/impl.kids").run Tryd.prog w = .ok (f, v) w) (hkids : ∀ W, Calls Tryd.prog f #[v] W (KidsOk l W))
    (ih : ∀ (i : Nat) (t : Ty), l[i]? = some t → ∀ W, Calls Tryd.prog 72 #[t.val] W fun e w' => e = .returned (.int .i64 (t.atoms : Int)) ∧ Below W.heap.size W w') (w : World) :
    Calls Tryd.prog 72 #[.iface n v] w fun e w' => e = .returned (.int .i64 (1 + (Ty.atomsL l : Int))) ∧ Below w.heap.size w w' := by
  have HK := hid hk
  have HC := hid hkids
  have HIH := hid ih
  clear hk hkids ih
  go_enter Tryd.func72, Tryd.ntmps72
  go_wp2_with (go_at_fn f; refine (HC.out _).mono ?_; rintro e w1 ⟨p, c, rfl, hv, hb1⟩; rw [HK.out])
  have HV := hid hv
  clear hv
  go_loopw [3, 9] (fun a u wr => ∃ i : Nat, i ≤ k ∧ u = .int .i64 (i : Int) ∧ a = .int .i64 (1 + (Ty.atomsL (l.take i) : Int)) ∧ Below w1.heap.size w1 wr) (fun _ u _ => k - (intOf u).toNat)
  case atStart => exact ⟨0, Nat.zero_le _, rfl, by simp [Ty.atomsL], Below.refl _ _⟩
  case round =>
    obtain ⟨i, hi, rfl, rfl, hbel⟩ := hrel
    have hz := hbel.size
    have htk := atomsL_take l i
    by_cases hlt : i < k
    · obtain ⟨t, ht⟩ : ∃ t, l[i]? = some t := ⟨_, List.getElem?_eq_getElem (by rw [HK.out]; exact hlt)⟩
      obtain ⟨b, o, rfl, hc⟩ := HV.out i t.val (by simp [ht])
      have hc' := (hbel.cell (p := ⟨b, o + i, none⟩) (World.block_lt_of_cell? w1 _ hc)).trans hc
      have HT := hid (HIH.out i t ht)
      have hsn := atomsL_snoc l i t ht
      have htk2 := atomsL_take l (i + 1)
      have hbd : Ty.atomsL (l.take i) + t.atoms ≤ 400000000 := by omega
      have HSN := hid hsn
      clear hc ht hsn htk2
      go_wp2_with (go_at_call 72; refine (HT.out _).mono ?_; rintro e w2 ⟨rfl, hb2⟩)
      go_roundw
      case rel => exact ⟨i + 1, by omega, by go_num, by rw [HSN.out]; go_num, hbel.trans (hb2.mono hz)⟩
      case measure => simp [intOf]; omega
    · have hin : i = k := by omega
      have HE := hid (show l.take i = l from List.take_of_length_le (by rw [HK.out]; omega))
      clear hin
      go_wp2_with fail
      go_ret
      exact ⟨ret_int (by rw [HE.out]), hb1.trans (hbel.mono hb1.size)⟩
/-- THE PROGRAM's COUNT OF A TYPE's ATOMS. -/
theorem typeAtoms_any : ∀ (t : Ty), t.atoms ≤ 400000000 → ∀ w, Calls Tryd.prog 72 #[t.val] w fun e w' => e = .returned (.int .i64 (t.atoms : Int)) ∧ Below w.heap.size w w'
  | .bit, h, w => by
    refine (typeAtoms_go _ _ _ [] 0 rfl (by decide) (by simp [Ty.atomsL]) (enters_of Tryd.func137 (by kernel_rfl) rfl) m_kids_bit kidsOk_bit (fun i t h => by simp at h) w).mono ?_
    rintro e w' ⟨rfl, hb⟩; exact ⟨ret_int (by simp [Ty.atomsL, Ty.atoms]), hb⟩
  | .pair x y, h, w => by
    rw [Ty.atoms] at h
    refine (typeAtoms_go _ _ _ [x, y] 2 rfl (by decide) (by simp [Ty.atomsL]; omega) (enters_of Tryd.func141 (by kernel_rfl) rfl) (m_kids_pair x.val y.val) (kidsOk_pair x y) (fun i t ht => by match i, ht with | 0, ht => simp at ht; subst ht; exact typeAtoms_any x (by omega) | 1, ht => simp at ht; subst ht; exact typeAtoms_any y (by omega)) w).mono ?_
    rintro e w' ⟨rfl, hb⟩; exact ⟨ret_int (by simp [Ty.atomsL, Ty.atoms]), hb⟩
  | .thunk x, h, w => by
    rw [Ty.atoms] at h
    refine (typeAtoms_go _ _ _ [x] 1 rfl (by decide) (by simp [Ty.atomsL]; omega) (enters_of Tryd.func145 (by kernel_rfl) rfl) (m_kids_thunk x.val) (kidsOk_thunk x) (fun i t ht => by match i, ht with | 0, ht => simp at ht; subst ht; exact typeAtoms_any x (by omega)) w).mono ?_
    rintro e w' ⟨rfl, hb⟩; exact ⟨ret_int (by simp [Ty.atomsL, Ty.atoms]), hb⟩
  | .ret x, h, w => by
    rw [Ty.atoms] at h
    refine (typeAtoms_go _ _ _ [x] 1 rfl (by decide) (by simp [Ty.atomsL]; omega) (enters_of Tryd.func149 (by kernel_rfl) rfl) (m_kids_ret x.val) (kidsOk_ret x) (fun i t ht => by match i, ht with | 0, ht => simp at ht; subst ht; exact typeAtoms_any x (by omega)) w).mono ?_
    rintro e w' ⟨rfl, hb⟩; exact ⟨ret_int (by simp [Ty.atomsL, Ty.atoms]), hb⟩
  | .fn x y, h, w => by
    rw [Ty.atoms] at h
    refine (typeAtoms_go _ _ _ [x, y] 2 rfl (by decide) (by simp [Ty.atomsL]; omega) (enters_of Tryd.func153 (by kernel_rfl) rfl) (m_kids_fn x.val y.val) (kidsOk_fn x y) (fun i t ht => by match i, ht with | 0, ht => simp at ht; subst ht; exact typeAtoms_any x (by omega) | 1, ht => simp at ht; subst ht; exact typeAtoms_any y (by omega)) w).mono ?_
    rintro e w' ⟨rfl, hb⟩; exact ⟨ret_int (by simp [Ty.atomsL, Ty.atoms]), hb⟩
  | .choice x y, h, w => by
    rw [Ty.atoms] at h
    refine (typeAtoms_go _ _ _ [x, y] 2 rfl (by decide) (by simp [Ty.atomsL]; omega) (enters_of Tryd.func157 (by kernel_rfl) rfl) (m_kids_choice x.val y.val) (kidsOk_choice x y) (fun i t ht => by match i, ht with | 0, ht => simp at ht; subst ht; exact typeAtoms_any x (by omega) | 1, ht => simp at ht; subst ht; exact typeAtoms_any y (by omega)) w).mono ?_
    rintro e w' ⟨rfl, hb⟩; exact ⟨ret_int (by simp [Ty.atomsL, Ty.atoms]), hb⟩


end Go.Proofs.YtnphopnhioogdaaDoor
