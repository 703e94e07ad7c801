/- Merged: BndT. -/
import Derived.Test.YtiipofgnoabhoaaGreatDoorTu13
namespace Go.Proofs.YtiipofgnoabhoaaGreatDoor
open Go.RowKit

/-- What boundTypes leaves. -/
def BndPost (o : Option (List Ty)) (w : World) (e : Ending) (w' : World) : Prop :=
  Below w.heap.size w w' ∧ match o with
    | some ts => ∃ q c, e = .returned (.tuple #[.slice q ts.length c, .bool true]) ∧ Vals w' q (ts.map Ty.val)
    | none => ∃ q n c, e = .returned (.tuple #[.slice q n c, .bool false])
theorem BndPost.none {w w' : World} {e : Ending} (h : BndPost Option.none w e w') : ∃ q n c, e = .returned (.tuple #[.slice q n c, .bool false]) ∧ Below w.heap.size w w' :=
  let ⟨hb, q, n, c, he⟩ := h; ⟨q, n, c, he, hb⟩
theorem BndPost.some {w w' : World} {e : Ending} {ts : List Ty} (h : BndPost (Option.some ts) w e w') : ∃ q c, e = .returned (.tuple #[.slice q ts.length c, .bool true]) ∧ Vals w' q (ts.map Ty.val) ∧ Below w.heap.size w w' :=
  let ⟨hb, q, c, he, hv⟩ := h; ⟨q, c, he, hv, hb⟩
theorem bndPost_no {o : Option (List Ty)} {w w' : World} {e : Ending} (ho : o = none) (q : Option Addr) (n c : Nat) (he : e = .returned (.tuple #[.slice q n c, .bool false])) (hb : Below w.heap.size w w') : BndPost o w e w' := by
  subst ho; exact ⟨hb, q, n, c, he⟩
theorem bndPost_yes {o : Option (List Ty)} {ts : List Ty} {w w' : World} {e : Ending} (ho : o = some ts) (q : Option Addr) (c : Nat) (he : e = .returned (.tuple #[.slice q ts.length c, .bool true])) (hv : Vals w' q (ts.map Ty.val)) (hb : Below w.heap.size w w') : BndPost o w e w' := by
  subst ho; exact ⟨hb, q, c, he, hv⟩
theorem vals_first {w : World} {p : Option Addr} {x : Ty} {ps : List Ty} (h : Vals w p ((x :: ps).map Ty.val)) : ∃ b o, p = some ⟨b, o, none⟩ ∧ w.cell? ⟨b, o, none⟩ = some x.val := by
  obtain ⟨b, o, hp, hc⟩ := h 0 x.val rfl
  exact ⟨b, o, hp, by simpa using hc⟩

set_option maxRecDepth 100000 in
set_option maxHeartbeats 4000000 in
theorem bound_to {b : Nat} {x1 x2 x3 x4 x5 : Value} {t : TypeId} (hd : ByteArray) (ty : Option Ty) (x : Ty) (ps : List Ty) (p : Option Addr) (n c : Nat) (w : World) (hb : w.heap[b]? = some (.cells #[.string hd, x1, x2, x3, x4, x5] t (0, 0))) (hh : hd.toList = [116, 111])
    (hn : (x :: ps).length = n) (hv : Vals w p ((x :: ps).map Ty.val)) : Calls Tryz.prog 198 #[.pointer (some ⟨b, 0, none⟩), .slice p n c] w (BndPost (bndT hd.toList ty (some x)) w) := by
  have c0 := (cells_of_six hb).1
  obtain ⟨vb, vo, rfl, hc⟩ := vals_first hv
  have h0 : 0 < n := by rw [← hn]; simp
  have h1 : 1 ≤ n := h0
  have e0 : (hd.toList == [116, 111]) = true := by simpa using hh
  have HB := hid (show bndT hd.toList ty (some x) = bndT [116, 111] ty (some x) by rw [hh])
  clear hb hh hn hv
  cases x with
  | bit =>
    simp only [Ty.val] at hc
    have has1 := as_bit_ret (.agg #[])
    go_enter Tryz.func198, Tryz.ntmps198
    go_wp2_with fail
    go_ret2
    exact bndPost_no (by rw [HB.out]; rfl) _ _ _ rfl (((Below.refl _ _).alloc (Nat.le_refl _) _).alloc (by simp) _)
  | pair u v =>
    simp only [Ty.val] at hc
    obtain ⟨nu, vu, hu⟩ := u.val_iface
    rw [hu] at hc
    have Hu := hid hu
    clear hu
    obtain ⟨nv, vv, hv⟩ := v.val_iface
    rw [hv] at hc
    have Hv := hid hv
    clear hv
    have has1 := as_pair_ret (.agg #[.iface nu vu, .iface nv vv])
    go_enter Tryz.func198, Tryz.ntmps198
    go_wp2_with fail
    go_ret2
    exact bndPost_no (by rw [HB.out]; rfl) _ _ _ rfl (((Below.refl _ _).alloc (Nat.le_refl _) _).alloc (by simp) _)
  | thunk u =>
    simp only [Ty.val] at hc
    obtain ⟨nu, vu, hu⟩ := u.val_iface
    rw [hu] at hc
    have Hu := hid hu
    clear hu
    have has1 := as_thunk_ret (.agg #[.iface nu vu])
    go_enter Tryz.func198, Tryz.ntmps198
    go_wp2_with fail
    go_ret2
    exact bndPost_no (by rw [HB.out]; rfl) _ _ _ rfl (((Below.refl _ _).alloc (Nat.le_refl _) _).alloc (by simp) _)
  | ret u =>
    simp only [Ty.val] at hc
    obtain ⟨nu, vu, hu⟩ := u.val_iface
    rw [hu] at hc
    have Hu := hid hu
    clear hu
    have has1 := as_ret_ret (.agg #[.iface nu vu])
    go_enter Tryz.func198, Tryz.ntmps198
    go_wp2_with fail
    go_ret2
    refine bndPost_yes (ts := [u]) (by rw [HB.out]; rfl) _ _ rfl ?_ (((Below.refl _ _).alloc (Nat.le_refl _) _).alloc (by simp) _)
    show Vals _ _ [u.val]
    rw [Hu.out]
    exact vals_one (heap_new _ _ _ (by simp))
  | fn u v =>
    simp only [Ty.val] at hc
    obtain ⟨nu, vu, hu⟩ := u.val_iface
    rw [hu] at hc
    have Hu := hid hu
    clear hu
    obtain ⟨nv, vv, hv⟩ := v.val_iface
    rw [hv] at hc
    have Hv := hid hv
    clear hv
    have has1 := as_fn_ret (.agg #[.iface nu vu, .iface nv vv])
    go_enter Tryz.func198, Tryz.ntmps198
    go_wp2_with fail
    go_ret2
    exact bndPost_no (by rw [HB.out]; rfl) _ _ _ rfl (((Below.refl _ _).alloc (Nat.le_refl _) _).alloc (by simp) _)
  | choice u v =>
    simp only [Ty.val] at hc
    obtain ⟨nu, vu, hu⟩ := u.val_iface
    rw [hu] at hc
    have Hu := hid hu
    clear hu
    obtain ⟨nv, vv, hv⟩ := v.val_iface
    rw [hv] at hc
    have Hv := hid hv
    clear hv
    have has1 := as_choice_ret (.agg #[.iface nu vu, .iface nv vv])
    go_enter Tryz.func198, Tryz.ntmps198
    go_wp2_with fail
    go_ret2
    exact bndPost_no (by rw [HB.out]; rfl) _ _ _ rfl (((Below.refl _ _).alloc (Nat.le_refl _) _).alloc (by simp) _)

set_option maxRecDepth 100000 in
set_option maxHeartbeats 4000000 in
theorem bound_split {b : Nat} {x1 x2 x3 x4 x5 : Value} {t : TypeId} (hd : ByteArray) (ty : Option Ty) (x : Ty) (ps : List Ty) (p : Option Addr) (n c : Nat) (w : World) (hb : w.heap[b]? = some (.cells #[.string hd, x1, x2, x3, x4, x5] t (0, 0))) (hh : hd.toList = [115, 112, 108, 105, 116])
    (hn : (x :: ps).length = n) (hv : Vals w p ((x :: ps).map Ty.val)) : Calls Tryz.prog 198 #[.pointer (some ⟨b, 0, none⟩), .slice p n c] w (BndPost (bndT hd.toList ty (some x)) w) := by
  have c0 := (cells_of_six hb).1
  obtain ⟨vb, vo, rfl, hc⟩ := vals_first hv
  have h0 : 0 < n := by rw [← hn]; simp
  have h1 : 1 ≤ n := h0
  have e0 : (hd.toList == [116, 111]) = false := by rw [hh]; rfl
  have e1 : (hd.toList == [115, 112, 108, 105, 116]) = true := by simpa using hh
  have HB := hid (show bndT hd.toList ty (some x) = bndT [115, 112, 108, 105, 116] ty (some x) by rw [hh])
  clear hb hh hn hv
  cases x with
  | bit =>
    simp only [Ty.val] at hc
    have has1 := as_bit_pair (.agg #[])
    go_enter Tryz.func198, Tryz.ntmps198
    go_wp2_with fail
    go_ret2
    exact bndPost_no (by rw [HB.out]; rfl) _ _ _ rfl (((Below.refl _ _).alloc (Nat.le_refl _) _).alloc (by simp) _)
  | pair u v =>
    simp only [Ty.val] at hc
    obtain ⟨nu, vu, hu⟩ := u.val_iface
    rw [hu] at hc
    have Hu := hid hu
    clear hu
    obtain ⟨nv, vv, hv⟩ := v.val_iface
    rw [hv] at hc
    have Hv := hid hv
    clear hv
    have has1 := as_pair_pair (.agg #[.iface nu vu, .iface nv vv])
    go_enter Tryz.func198, Tryz.ntmps198
    go_wp2_with fail
    go_ret2
    refine bndPost_yes (ts := [u, v]) (by rw [HB.out]; rfl) _ _ rfl ?_ (((Below.refl _ _).alloc (Nat.le_refl _) _).alloc (by simp) _)
    show Vals _ _ [u.val, v.val]
    rw [Hu.out, Hv.out]
    exact vals_two (heap_new _ _ _ (by simp))
  | thunk u =>
    simp only [Ty.val] at hc
    obtain ⟨nu, vu, hu⟩ := u.val_iface
    rw [hu] at hc
    have Hu := hid hu
    clear hu
    have has1 := as_thunk_pair (.agg #[.iface nu vu])
    go_enter Tryz.func198, Tryz.ntmps198
    go_wp2_with fail
    go_ret2
    exact bndPost_no (by rw [HB.out]; rfl) _ _ _ rfl (((Below.refl _ _).alloc (Nat.le_refl _) _).alloc (by simp) _)
  | ret u =>
    simp only [Ty.val] at hc
    obtain ⟨nu, vu, hu⟩ := u.val_iface
    rw [hu] at hc
    have Hu := hid hu
    clear hu
    have has1 := as_ret_pair (.agg #[.iface nu vu])
    go_enter Tryz.func198, Tryz.ntmps198
    go_wp2_with fail
    go_ret2
    exact bndPost_no (by rw [HB.out]; rfl) _ _ _ rfl (((Below.refl _ _).alloc (Nat.le_refl _) _).alloc (by simp) _)
  | fn u v =>
    simp only [Ty.val] at hc
    obtain ⟨nu, vu, hu⟩ := u.val_iface
    rw [hu] at hc
    have Hu := hid hu
    clear hu
    obtain ⟨nv, vv, hv⟩ := v.val_iface
    rw [hv] at hc
    have Hv := hid hv
    clear hv
    have has1 := as_fn_pair (.agg #[.iface nu vu, .iface nv vv])
    go_enter Tryz.func198, Tryz.ntmps198
    go_wp2_with fail
    go_ret2
    exact bndPost_no (by rw [HB.out]; rfl) _ _ _ rfl (((Below.refl _ _).alloc (Nat.le_refl _) _).alloc (by simp) _)
  | choice u v =>
    simp only [Ty.val] at hc
    obtain ⟨nu, vu, hu⟩ := u.val_iface
    rw [hu] at hc
    have Hu := hid hu
    clear hu
    obtain ⟨nv, vv, hv⟩ := v.val_iface
    rw [hv] at hc
    have Hv := hid hv
    clear hv
    have has1 := as_choice_pair (.agg #[.iface nu vu, .iface nv vv])
    go_enter Tryz.func198, Tryz.ntmps198
    go_wp2_with fail
    go_ret2
    exact bndPost_no (by rw [HB.out]; rfl) _ _ _ rfl (((Below.refl _ _).alloc (Nat.le_refl _) _).alloc (by simp) _)

set_option maxRecDepth 100000 in
set_option maxHeartbeats 4000000 in
/-- THE TYPES OF THE NAMES THAT A TERM BINDS. -/
theorem boundTypes_any {b : Nat} {x1 x2 x3 x5 : Value} {t : TypeId} (hd : ByteArray) (ty : Option Ty) (ps : List Ty) (p : Option Addr) (n c : Nat) (w : World) (hb : w.heap[b]? = some (.cells #[.string hd, x1, x2, x3, tyV ty, x5] t (0, 0)))
    (hn : ps.length = n) (hv : Vals w p (ps.map Ty.val)) (h1 : hd.toList = [116, 111] ∨ hd.toList = [115, 112, 108, 105, 116] → 1 ≤ n) (h2 : hd.toList = [108, 97, 109] → ty ≠ none) : Calls Tryz.prog 198 #[.pointer (some ⟨b, 0, none⟩), .slice p n c] w (BndPost (bndT hd.toList ty ps[0]?) w) := by
  by_cases c1 : hd.toList = [116, 111]
  · cases ps with
    | nil => exact absurd (h1 (Or.inl c1)) (by rw [← hn]; simp)
    | cons x ps => exact bound_to hd ty x ps p n c w hb c1 hn hv
  by_cases c2 : hd.toList = [115, 112, 108, 105, 116]
  · cases ps with
    | nil => exact absurd (h1 (Or.inr c2)) (by rw [← hn]; simp)
    | cons x ps => exact bound_split hd ty x ps p n c w hb c2 hn hv
  have c0 := (cells_of_six hb).1
  have c4 := (cells_of_six hb).2.2.2.2.1
  have e0 : (hd.toList == [116, 111]) = false := by simpa using c1
  have e1 : (hd.toList == [115, 112, 108, 105, 116]) = false := by simpa using c2
  by_cases c3 : hd.toList = [108, 97, 109]
  · have e2 : (hd.toList == [108, 97, 109]) = true := by simpa using c3
    cases ty with
    | none => exact absurd rfl (h2 c3)
    | some u =>
      have HB := hid (show bndT hd.toList (some u) ps[0]? = some [u] by rw [c3]; rfl)
      obtain ⟨nu, vu, hu⟩ := u.val_iface
      have HU := hid hu
      simp only [tyV] at c4
      rw [hu] at c4
      clear hb hn hv h1 h2 c1 c2 c3 hu
      go_enter Tryz.func198, Tryz.ntmps198
      go_wp2_with fail
      go_ret2
      refine bndPost_yes HB.out _ _ rfl ?_ ((Below.refl _ _).alloc (Nat.le_refl _) _)
      show Vals _ _ [u.val]
      rw [HU.out]
      exact vals_one (heap_new _ _ _ rfl)
  by_cases c5 : hd.toList = [103, 101, 116]
  · have e2 : (hd.toList == [108, 97, 109]) = false := by simpa using c3
    have e3 : (hd.toList == [103, 101, 116]) = true := by simpa using c5
    have HB := hid (show bndT hd.toList ty ps[0]? = some [.bit] by rw [c5]; rfl)
    clear hb hn hv h1 h2 c1 c2 c3 c5 c4
    go_enter Tryz.func198, Tryz.ntmps198
    go_wp2_with fail
    go_ret2
    exact bndPost_yes HB.out _ _ rfl (vals_one (heap_new _ _ _ rfl)) ((Below.refl _ _).alloc (Nat.le_refl _) _)
  have e2 : (hd.toList == [108, 97, 109]) = false := by simpa using c3
  have e3 : (hd.toList == [103, 101, 116]) = false := by simpa using c5
  have HB := hid (show bndT hd.toList ty ps[0]? = some [] by unfold bndT; rw [if_neg c1, if_neg c2, if_neg c3, if_neg c5])
  clear hb hn hv h1 h2 c1 c2 c3 c5 c4
  go_enter Tryz.func198, Tryz.ntmps198
  go_wp2_with fail
  go_ret2
  exact bndPost_yes HB.out _ _ rfl (fun i v h => by simp at h) (Below.refl _ _)
end Go.Proofs.YtiipofgnoabhoaaGreatDoor
