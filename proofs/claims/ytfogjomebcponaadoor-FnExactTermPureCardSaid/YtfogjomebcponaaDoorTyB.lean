/- A head and parts as a type: the program's typeOfParts. -/
import Derived.Test.YtfogjomebcponaaDoorBytP
import Derived.Test.YtfogjomebcponaaDoorTyA
namespace Go.Proofs.YtfogjomebcponaaDoor
open Go.RowKit

/-- A head and the kinds of the parts, with blanks between. -/
def joinS (hd : List UInt8) (ks : List (List UInt8)) : List UInt8 := hd ++ ks.flatMap (fun k => 32 :: k)
theorem joinS_snoc (hd : List UInt8) (ks : List (List UInt8)) (k : List UInt8) : joinS hd (ks ++ [k]) = joinS hd ks ++ 32 :: k := by simp [joinS]
theorem joinS_inj : ∀ (ks ks' : List (List UInt8)) (hd hd' : List UInt8), (∀ b ∈ hd, b ≠ 32) → (∀ b ∈ hd', b ≠ 32) → (∀ k ∈ ks, ∀ b ∈ k, b ≠ 32) → (∀ k ∈ ks', ∀ b ∈ k, b ≠ 32) →
    joinS hd ks = joinS hd' ks' → hd = hd' ∧ ks = ks' := by
  have key : ∀ (hd hd' : List UInt8) (r r' : List UInt8), (∀ b ∈ hd, b ≠ 32) → (∀ b ∈ hd', b ≠ 32) → (r = [] ∨ ∃ t, r = 32 :: t) → (r' = [] ∨ ∃ t, r' = 32 :: t) → hd ++ r = hd' ++ r' → hd = hd' ∧ r = r' := by
    intro hd
    induction hd with
    | nil =>
      intro hd' r r' _ h' hr hr' e
      cases hd' with
      | nil => exact ⟨rfl, by simpa using e⟩
      | cons b hd' =>
        exfalso
        rcases hr with rfl | ⟨t, rfl⟩
        · simp at e
        · simp at e; exact h' b (by simp) e.1.symm
    | cons a hd ih =>
      intro hd' r r' h h' hr hr' e
      cases hd' with
      | nil =>
        exfalso
        rcases hr' with rfl | ⟨t, rfl⟩
        · simp at e
        · simp at e; exact h a (by simp) e.1
      | cons b hd' =>
        simp only [List.cons_append, List.cons.injEq] at e
        have := ih hd' r r' (fun x hx => h x (by simp [hx])) (fun x hx => h' x (by simp [hx])) hr hr' e.2
        exact ⟨by rw [e.1, this.1], this.2⟩
  have tail : ∀ ks : List (List UInt8), ks.flatMap (fun k => 32 :: k) = [] ∨ ∃ t, ks.flatMap (fun k => (32 : UInt8) :: k) = 32 :: t := by
    intro ks; cases ks with
    | nil => exact Or.inl rfl
    | cons k ks => exact Or.inr ⟨_, rfl⟩
  intro ks
  induction ks with
  | nil =>
    intro ks' hd hd' h h' _ _ e
    have := key hd hd' _ _ h h' (tail []) (tail ks') e
    refine ⟨this.1, ?_⟩
    cases ks' with
    | nil => rfl
    | cons k ks' => have := this.2; simp at this
  | cons k ks ih =>
    intro ks' hd hd' h h' hk hk' e
    have := key hd hd' _ _ h h' (tail (k :: ks)) (tail ks') e
    refine ⟨this.1, ?_⟩
    cases ks' with
    | nil => have := this.2; simp at this
    | cons k' ks' =>
      have e2 := this.2
      simp only [List.flatMap_cons, List.cons_append, List.cons.injEq, true_and] at e2
      have := ih ks' k k' (hk k (by simp)) (hk' k' (by simp)) (fun x hx => hk x (by simp [hx])) (fun x hx => hk' x (by simp [hx])) e2
      rw [this.1, this.2]

/-- A head and parts as a type. -/
def tyParts (hd : List UInt8) (kids : List Ty) : Option Ty :=
  match kids with
  | [a, b] => if hd = [42] ∧ a.isVal = true ∧ b.isVal = true then some (.pair a b) else if hd = [62] ∧ a.isVal = true ∧ b.isVal = false then some (.fn a b) else if hd = [38] ∧ a.isVal = false ∧ b.isVal = false then some (.choice a b) else none
  | [a] => if hd = [117] ∧ a.isVal = false then some (.thunk a) else if hd = [102] ∧ a.isVal = true then some (.ret a) else none
  | _ => none

def lV : List UInt8 := [118, 97, 108, 117, 101]
def lC : List UInt8 := [99, 111, 109, 112, 117, 116, 97, 116, 105, 111, 110]
theorem strV_toList : strV.toList = lV := by rw [Go.ByteArray.toList_eq]; rfl
theorem strC_toList : strC.toList = lC := by rw [Go.ByteArray.toList_eq]; rfl
def Ty.kindL (t : Ty) : List UInt8 := if t.isVal then lV else lC
theorem kindL_no (t : Ty) : ∀ b ∈ t.kindL, b ≠ 32 := by
  unfold Ty.kindL; split <;> decide
theorem kindL_V {t : Ty} : t.kindL = lV ↔ t.isVal = true := by
  unfold Ty.kindL; cases h : t.isVal <;> simp [lV, lC]
theorem kindL_C {t : Ty} : t.kindL = lC ↔ t.isVal = false := by
  unfold Ty.kindL; cases h : t.isVal <;> simp [lV, lC]
theorem joinS_eq {hd : List UInt8} {kids : List Ty} {h' : List UInt8} {ks' : List (List UInt8)} (h : ∀ b ∈ hd, b ≠ 32) (hh' : ∀ b ∈ h', b ≠ 32) (hk' : ∀ k ∈ ks', ∀ b ∈ k, b ≠ 32) :
    joinS hd (kids.map Ty.kindL) = joinS h' ks' ↔ hd = h' ∧ kids.map Ty.kindL = ks' := by
  refine ⟨fun e => joinS_inj _ _ _ _ h hh' (fun k hk => ?_) hk' e, fun e => by rw [e.1, e.2]⟩
  obtain ⟨t, _, rfl⟩ := List.mem_map.1 hk
  exact kindL_no t
theorem map_two {kids : List Ty} {x y : List UInt8} (h : kids.map Ty.kindL = [x, y]) : ∃ a b, kids = [a, b] ∧ a.kindL = x ∧ b.kindL = y := by
  match kids, h with
  | [a, b], h => simp at h; exact ⟨a, b, rfl, h.1, h.2⟩
theorem map_one {kids : List Ty} {x : List UInt8} (h : kids.map Ty.kindL = [x]) : ∃ a, kids = [a] ∧ a.kindL = x := by
  match kids, h with
  | [a], h => simp at h; exact ⟨a, rfl, h⟩

theorem no1 {x : List UInt8} (h : ∀ b ∈ x, b ≠ 32) : ∀ k ∈ [x], ∀ b ∈ k, b ≠ 32 := by
  intro k hk; rw [List.mem_singleton] at hk; subst hk; exact h
theorem no2 {x y : List UInt8} (h : ∀ b ∈ x, b ≠ 32) (h' : ∀ b ∈ y, b ≠ 32) : ∀ k ∈ [x, y], ∀ b ∈ k, b ≠ 32 := by
  intro k hk
  rcases List.mem_cons.1 hk with rfl | hk
  · exact h
  · rw [List.mem_singleton] at hk; subst hk; exact h'

/-- The five forms, and all others. -/
theorem parts_cases (hd : List UInt8) (kids : List Ty) (h : ∀ b ∈ hd, b ≠ 32) :
    (∃ a b, kids = [a, b] ∧ joinS hd (kids.map Ty.kindL) = joinS [42] [lV, lV] ∧ tyParts hd kids = some (.pair a b)) ∨
    (∃ a, kids = [a] ∧ joinS hd (kids.map Ty.kindL) = joinS [117] [lC] ∧ tyParts hd kids = some (.thunk a)) ∨
    (∃ a, kids = [a] ∧ joinS hd (kids.map Ty.kindL) = joinS [102] [lV] ∧ tyParts hd kids = some (.ret a)) ∨
    (∃ a b, kids = [a, b] ∧ joinS hd (kids.map Ty.kindL) = joinS [62] [lV, lC] ∧ tyParts hd kids = some (.fn a b)) ∨
    (∃ a b, kids = [a, b] ∧ joinS hd (kids.map Ty.kindL) = joinS [38] [lC, lC] ∧ tyParts hd kids = some (.choice a b)) ∨
    (joinS hd (kids.map Ty.kindL) ≠ joinS [42] [lV, lV] ∧ joinS hd (kids.map Ty.kindL) ≠ joinS [117] [lC] ∧ joinS hd (kids.map Ty.kindL) ≠ joinS [102] [lV] ∧ joinS hd (kids.map Ty.kindL) ≠ joinS [62] [lV, lC] ∧
      joinS hd (kids.map Ty.kindL) ≠ joinS [38] [lC, lC] ∧ tyParts hd kids = none) := by
  have nV : ∀ b ∈ lV, b ≠ 32 := by decide
  have nC : ∀ b ∈ lC, b ≠ 32 := by decide
  by_cases c1 : joinS hd (kids.map Ty.kindL) = joinS [42] [lV, lV]
  · obtain ⟨e1, e2⟩ := (joinS_eq h (by decide) (no2 nV nV)).1 c1
    obtain ⟨a, b, rfl, ha, hb⟩ := map_two e2
    exact Or.inl ⟨a, b, rfl, c1, by simp [tyParts, e1, kindL_V.1 ha, kindL_V.1 hb]⟩
  by_cases c2 : joinS hd (kids.map Ty.kindL) = joinS [117] [lC]
  · obtain ⟨e1, e2⟩ := (joinS_eq h (by decide) (no1 nC)).1 c2
    obtain ⟨a, rfl, ha⟩ := map_one e2
    exact Or.inr (Or.inl ⟨a, rfl, c2, by simp [tyParts, e1, kindL_C.1 ha]⟩)
  by_cases c3 : joinS hd (kids.map Ty.kindL) = joinS [102] [lV]
  · obtain ⟨e1, e2⟩ := (joinS_eq h (by decide) (no1 nV)).1 c3
    obtain ⟨a, rfl, ha⟩ := map_one e2
    exact Or.inr (Or.inr (Or.inl ⟨a, rfl, c3, by simp [tyParts, e1, kindL_V.1 ha]⟩))
  by_cases c4 : joinS hd (kids.map Ty.kindL) = joinS [62] [lV, lC]
  · obtain ⟨e1, e2⟩ := (joinS_eq h (by decide) (no2 nV nC)).1 c4
    obtain ⟨a, b, rfl, ha, hb⟩ := map_two e2
    exact Or.inr (Or.inr (Or.inr (Or.inl ⟨a, b, rfl, c4, by simp [tyParts, e1, kindL_V.1 ha, kindL_C.1 hb]⟩)))
  by_cases c5 : joinS hd (kids.map Ty.kindL) = joinS [38] [lC, lC]
  · obtain ⟨e1, e2⟩ := (joinS_eq h (by decide) (no2 nC nC)).1 c5
    obtain ⟨a, b, rfl, ha, hb⟩ := map_two e2
    exact Or.inr (Or.inr (Or.inr (Or.inr (Or.inl ⟨a, b, rfl, c5, by simp [tyParts, e1, kindL_C.1 ha, kindL_C.1 hb]⟩))))
  refine Or.inr (Or.inr (Or.inr (Or.inr (Or.inr ⟨c1, c2, c3, c4, c5, ?_⟩))))
  unfold tyParts
  split
  · rename_i a b
    rw [if_neg, if_neg, if_neg]
    · rintro ⟨rfl, ha, hb⟩; exact c5 (by simp [kindL_C.2 ha, kindL_C.2 hb])
    · rintro ⟨rfl, ha, hb⟩; exact c4 (by simp [kindL_V.2 ha, kindL_C.2 hb])
    · rintro ⟨rfl, ha, hb⟩; exact c1 (by simp [kindL_V.2 ha, kindL_V.2 hb])
  · rename_i a
    rw [if_neg, if_neg]
    · rintro ⟨rfl, ha⟩; exact c3 (by simp [kindL_V.2 ha])
    · rintro ⟨rfl, ha⟩; exact c2 (by simp [kindL_C.2 ha])
  · rfl

/-- What a function leaves that returns a type and whether there is one. -/
def TyPost (o : Option Ty) (w : World) (e : Ending) (w' : World) : Prop :=
  e = .returned (match o with | some t => .tuple #[t.val, .bool true] | none => .tuple #[.nilIface, .bool false]) ∧ Below w.heap.size w w'

theorem kk1 : ([42, 32, 118, 97, 108, 117, 101, 32, 118, 97, 108, 117, 101] : List UInt8) = joinS [42] [lV, lV] := rfl
theorem kk2 : ([117, 32, 99, 111, 109, 112, 117, 116, 97, 116, 105, 111, 110] : List UInt8) = joinS [117] [lC] := rfl
theorem kk3 : ([102, 32, 118, 97, 108, 117, 101] : List UInt8) = joinS [102] [lV] := rfl
theorem kk4 : ([62, 32, 118, 97, 108, 117, 101, 32, 99, 111, 109, 112, 117, 116, 97, 116, 105, 111, 110] : List UInt8) = joinS [62] [lV, lC] := rfl
theorem kk5 : ([38, 32, 99, 111, 109, 112, 117, 116, 97, 116, 105, 111, 110, 32, 99, 111, 109, 112, 117, 116, 97, 116, 105, 111, 110] : List UInt8) = joinS [38] [lC, lC] := rfl
theorem form_size {f x : ByteArray} {i : Nat} (h : f.size ≤ 12000 + 12 * i) (hx : x.size ≤ 11) : (f ++ (({ data := #[32] } : ByteArray) ++ x)).size ≤ 12000 + 12 * (i + 1) := by
  rw [ByteArray.size_append, ByteArray.size_append]
  have : ({ data := #[32] } : ByteArray).size = 1 := rfl
  omega
theorem kindS_toList (t : Ty) : t.kindS.toList = t.kindL := by
  unfold Ty.kindS Ty.kindL; split
  · exact strV_toList
  · exact strC_toList
theorem form_round {hd : List UInt8} {kids : List Ty} {f x : ByteArray} {i : Nat} {k : Ty} (h : f.toList = joinS hd ((kids.map Ty.kindL).take i)) (hk : kids[i]? = some k) (hx : k.kindS = x) :
    (f ++ (({ data := #[32] } : ByteArray) ++ x)).toList = joinS hd ((kids.map Ty.kindL).take (i + 1)) := by
  rw [append_toList, append_toList, h, space_toList, ← hx, kindS_toList, List.take_add_one, List.getElem?_map, hk]
  simp [joinS]

set_option maxRecDepth 100000 in
set_option maxHeartbeats 4000000 in
theorem typeOfParts_any (hd : ByteArray) (kids : List Ty) (p : Option Addr) (n cap : Nat) (w : World) (hn : Hid (kids.length = n)) (hv : Vals w p (kids.map Ty.val)) (hsz : hd.size ≤ 12000) (hnb : n ≤ 12000) (hsp : ∀ b ∈ hd.toList, b ≠ 32) :
    Calls Tryd.prog 49 #[.string hd, .slice p n cap] w (TyPost (tyParts hd.toList kids) w) := by
  have HV := hid hv
  have HSP := hid hsp
  have hzV : strV.size ≤ 11 := by decide
  have hzC : strC.size ≤ 11 := by decide
  clear hv hsp
  go_enter Tryd.func49, Tryd.ntmps49
  go_wp2_with fail
  go_loopw [6, 12] (fun v u wr => ∃ (i : Nat) (f : ByteArray), i ≤ n ∧ u = .int .i64 (i : Int) ∧ v = .string f ∧ f.size ≤ 12000 + 12 * i ∧ Hid (f.toList = joinS hd.toList ((kids.map Ty.kindL).take i)) ∧ Below w.heap.size w wr) (fun _ u _ => n - (intOf u).toNat)
  case atStart => exact ⟨0, hd, Nat.zero_le _, rfl, rfl, by omega, hid (by simp [joinS]), Below.refl _ _⟩
  case round =>
    obtain ⟨i, f, hi, rfl, rfl, hfs, hf, hbel⟩ := hrel
    by_cases hlt : i < n
    · obtain ⟨k, hk⟩ : ∃ k, kids[i]? = some k := ⟨_, List.getElem?_eq_getElem (by rw [hn.out]; exact hlt)⟩
      obtain ⟨b, o, rfl, hc⟩ := HV.out i k.val (by simp [hk])
      have hc' := (hbel.cell (p := ⟨b, o + i, none⟩) (World.block_lt_of_cell? w _ hc)).trans hc
      have HK := hid hk
      clear hk hc
      cases k with
      | bit =>
        have hc2 : wr.cell? ⟨b, o + i, none⟩ = some (.iface 90 (.agg #[])) := hc'
        have mk := m_kind_bit 
        clear hc'
        go_wp2_with (go_at_call 139; refine (kind_bit _).mono ?_; rintro e w1 ⟨rfl, hb1⟩)
        go_roundw
        case rel => exact ⟨i + 1, f ++ (({ data := #[32] } : ByteArray) ++ strV), by omega, by go_num, rfl, form_size hfs hzV, hid (form_round hf.out HK.out (x := strV) rfl), hbel.trans (hb1.mono hbel.size)⟩
        case measure => simp [intOf]; omega
      | pair x y =>
        have hc2 : wr.cell? ⟨b, o + i, none⟩ = some (.iface 50 (.agg #[x.val, y.val])) := hc'
        have mk := m_kind_pair x.val y.val
        clear hc'
        go_wp2_with (go_at_call 118; refine (kind_pair _ _ _).mono ?_; rintro e w1 ⟨rfl, hb1⟩)
        go_roundw
        case rel => exact ⟨i + 1, f ++ (({ data := #[32] } : ByteArray) ++ strV), by omega, by go_num, rfl, form_size hfs hzV, hid (form_round hf.out HK.out (x := strV) rfl), hbel.trans (hb1.mono hbel.size)⟩
        case measure => simp [intOf]; omega
      | thunk x =>
        have hc2 : wr.cell? ⟨b, o + i, none⟩ = some (.iface 56 (.agg #[x.val])) := hc'
        have mk := m_kind_thunk x.val
        clear hc'
        go_wp2_with (go_at_call 122; refine (kind_thunk _ _).mono ?_; rintro e w1 ⟨rfl, hb1⟩)
        go_roundw
        case rel => exact ⟨i + 1, f ++ (({ data := #[32] } : ByteArray) ++ strV), by omega, by go_num, rfl, form_size hfs hzV, hid (form_round hf.out HK.out (x := strV) rfl), hbel.trans (hb1.mono hbel.size)⟩
        case measure => simp [intOf]; omega
      | ret x =>
        have hc2 : wr.cell? ⟨b, o + i, none⟩ = some (.iface 58 (.agg #[x.val])) := hc'
        have mk := m_kind_ret x.val
        clear hc'
        go_wp2_with (go_at_call 126; refine (kind_ret _ _).mono ?_; rintro e w1 ⟨rfl, hb1⟩)
        go_roundw
        case rel => exact ⟨i + 1, f ++ (({ data := #[32] } : ByteArray) ++ strC), by omega, by go_num, rfl, form_size hfs hzC, hid (form_round hf.out HK.out (x := strC) rfl), hbel.trans (hb1.mono hbel.size)⟩
        case measure => simp [intOf]; omega
      | fn x y =>
        have hc2 : wr.cell? ⟨b, o + i, none⟩ = some (.iface 60 (.agg #[x.val, y.val])) := hc'
        have mk := m_kind_fn x.val y.val
        clear hc'
        go_wp2_with (go_at_call 130; refine (kind_fn _ _ _).mono ?_; rintro e w1 ⟨rfl, hb1⟩)
        go_roundw
        case rel => exact ⟨i + 1, f ++ (({ data := #[32] } : ByteArray) ++ strC), by omega, by go_num, rfl, form_size hfs hzC, hid (form_round hf.out HK.out (x := strC) rfl), hbel.trans (hb1.mono hbel.size)⟩
        case measure => simp [intOf]; omega
      | choice x y =>
        have hc2 : wr.cell? ⟨b, o + i, none⟩ = some (.iface 61 (.agg #[x.val, y.val])) := hc'
        have mk := m_kind_choice x.val y.val
        clear hc'
        go_wp2_with (go_at_call 134; refine (kind_choice _ _ _).mono ?_; rintro e w1 ⟨rfl, hb1⟩)
        go_roundw
        case rel => exact ⟨i + 1, f ++ (({ data := #[32] } : ByteArray) ++ strC), by omega, by go_num, rfl, form_size hfs hzC, hid (form_round hf.out HK.out (x := strC) rfl), hbel.trans (hb1.mono hbel.size)⟩
        case measure => simp [intOf]; omega
    · have hfl : f.toList = joinS hd.toList (kids.map Ty.kindL) := by
        rw [hf.out, List.take_of_length_le (by rw [List.length_map, hn.out]; omega)]
      have FL := hid hfl
      have hin : n ≤ i := by omega
      clear hfl hf
      rcases parts_cases hd.toList kids HSP.out with H | H | H | H | H | ⟨hN1, hN2, hN3, hN4, hN5, hT⟩
      · obtain ⟨a1, a2, rfl, hJ, hT⟩ := H
        have t1 : (f.toList == [42, 32, 118, 97, 108, 117, 101, 32, 118, 97, 108, 117, 101]) = true := by rw [FL.out, hJ, kk1]; rfl
        obtain ⟨b, o, rfl, hc0⟩ := HV.out 0 a1.val rfl
        obtain ⟨b', o', hbo, hc1⟩ := HV.out 1 a2.val rfl
        obtain ⟨rfl, rfl⟩ : b' = b ∧ o' = o := by simp at hbo; exact ⟨hbo.1.symm, hbo.2.symm⟩
        have k0 : wr.cell? ⟨b', o', none⟩ = some a1.val := (hbel.cell (p := ⟨b', o', none⟩) (World.block_lt_of_cell? w _ hc0)).trans hc0
        have k1 : wr.cell? ⟨b', o' + 1, none⟩ = some a2.val := (hbel.cell (p := ⟨b', o' + 1, none⟩) (World.block_lt_of_cell? w _ hc1)).trans hc1
        obtain ⟨u1, v1, hv1⟩ := a1.val_iface
        obtain ⟨u2, v2, hv2⟩ := a2.val_iface
        rw [hv1] at k0
        rw [hv2] at k1
        have HV1 := hid hv1
        have HV2 := hid hv2
        obtain rfl : n = 2 := hn.out.symm
        have HT := hid hT
        clear hc0 hc1 hbo hv1 hv2 hT hJ
        go_wp2_with fail
        go_quiet (fail)
        go_wp2_with fail
        go_ret2
        exact ⟨by rw [HT.out]; simp only [Ty.val]; rw [HV1.out, HV2.out]; rfl, below_drewN hbel _⟩
      · obtain ⟨a1, rfl, hJ, hT⟩ := H
        have t1 : (f.toList == [42, 32, 118, 97, 108, 117, 101, 32, 118, 97, 108, 117, 101]) = false := by rw [FL.out, hJ, kk1]; rfl
        have t2 : (f.toList == [117, 32, 99, 111, 109, 112, 117, 116, 97, 116, 105, 111, 110]) = true := by rw [FL.out, hJ, kk2]; rfl
        obtain ⟨b, o, rfl, hc0⟩ := HV.out 0 a1.val rfl
        have k0 : wr.cell? ⟨b, o, none⟩ = some a1.val := (hbel.cell (p := ⟨b, o, none⟩) (World.block_lt_of_cell? w _ hc0)).trans hc0
        obtain ⟨u1, v1, hv1⟩ := a1.val_iface
        rw [hv1] at k0
        have HV1 := hid hv1
        obtain rfl : n = 1 := hn.out.symm
        have HT := hid hT
        clear hc0 hv1 hT hJ
        go_wp2_with fail
        go_ret2
        exact ⟨by rw [HT.out]; simp only [Ty.val]; rw [HV1.out]; rfl, hbel⟩
      · obtain ⟨a1, rfl, hJ, hT⟩ := H
        have t1 : (f.toList == [42, 32, 118, 97, 108, 117, 101, 32, 118, 97, 108, 117, 101]) = false := by rw [FL.out, hJ, kk1]; rfl
        have t2 : (f.toList == [117, 32, 99, 111, 109, 112, 117, 116, 97, 116, 105, 111, 110]) = false := by rw [FL.out, hJ, kk2]; rfl
        have t3 : (f.toList == [102, 32, 118, 97, 108, 117, 101]) = true := by rw [FL.out, hJ, kk3]; rfl
        obtain ⟨b, o, rfl, hc0⟩ := HV.out 0 a1.val rfl
        have k0 : wr.cell? ⟨b, o, none⟩ = some a1.val := (hbel.cell (p := ⟨b, o, none⟩) (World.block_lt_of_cell? w _ hc0)).trans hc0
        obtain ⟨u1, v1, hv1⟩ := a1.val_iface
        rw [hv1] at k0
        have HV1 := hid hv1
        obtain rfl : n = 1 := hn.out.symm
        have HT := hid hT
        clear hc0 hv1 hT hJ
        go_wp2_with fail
        go_ret2
        exact ⟨by rw [HT.out]; simp only [Ty.val]; rw [HV1.out]; rfl, hbel⟩
      · obtain ⟨a1, a2, rfl, hJ, hT⟩ := H
        have t1 : (f.toList == [42, 32, 118, 97, 108, 117, 101, 32, 118, 97, 108, 117, 101]) = false := by rw [FL.out, hJ, kk1]; rfl
        have t2 : (f.toList == [117, 32, 99, 111, 109, 112, 117, 116, 97, 116, 105, 111, 110]) = false := by rw [FL.out, hJ, kk2]; rfl
        have t3 : (f.toList == [102, 32, 118, 97, 108, 117, 101]) = false := by rw [FL.out, hJ, kk3]; rfl
        have t4 : (f.toList == [62, 32, 118, 97, 108, 117, 101, 32, 99, 111, 109, 112, 117, 116, 97, 116, 105, 111, 110]) = true := by rw [FL.out, hJ, kk4]; rfl
        obtain ⟨b, o, rfl, hc0⟩ := HV.out 0 a1.val rfl
        obtain ⟨b', o', hbo, hc1⟩ := HV.out 1 a2.val rfl
        obtain ⟨rfl, rfl⟩ : b' = b ∧ o' = o := by simp at hbo; exact ⟨hbo.1.symm, hbo.2.symm⟩
        have k0 : wr.cell? ⟨b', o', none⟩ = some a1.val := (hbel.cell (p := ⟨b', o', none⟩) (World.block_lt_of_cell? w _ hc0)).trans hc0
        have k1 : wr.cell? ⟨b', o' + 1, none⟩ = some a2.val := (hbel.cell (p := ⟨b', o' + 1, none⟩) (World.block_lt_of_cell? w _ hc1)).trans hc1
        obtain ⟨u1, v1, hv1⟩ := a1.val_iface
        obtain ⟨u2, v2, hv2⟩ := a2.val_iface
        rw [hv1] at k0
        rw [hv2] at k1
        have HV1 := hid hv1
        have HV2 := hid hv2
        obtain rfl : n = 2 := hn.out.symm
        have HT := hid hT
        clear hc0 hc1 hbo hv1 hv2 hT hJ
        go_wp2_with fail
        go_quiet (fail)
        go_wp2_with fail
        go_ret2
        exact ⟨by rw [HT.out]; simp only [Ty.val]; rw [HV1.out, HV2.out]; rfl, below_drewN hbel _⟩
      · obtain ⟨a1, a2, rfl, hJ, hT⟩ := H
        have t1 : (f.toList == [42, 32, 118, 97, 108, 117, 101, 32, 118, 97, 108, 117, 101]) = false := by rw [FL.out, hJ, kk1]; rfl
        have t2 : (f.toList == [117, 32, 99, 111, 109, 112, 117, 116, 97, 116, 105, 111, 110]) = false := by rw [FL.out, hJ, kk2]; rfl
        have t3 : (f.toList == [102, 32, 118, 97, 108, 117, 101]) = false := by rw [FL.out, hJ, kk3]; rfl
        have t4 : (f.toList == [62, 32, 118, 97, 108, 117, 101, 32, 99, 111, 109, 112, 117, 116, 97, 116, 105, 111, 110]) = false := by rw [FL.out, hJ, kk4]; rfl
        have t5 : (f.toList == [38, 32, 99, 111, 109, 112, 117, 116, 97, 116, 105, 111, 110, 32, 99, 111, 109, 112, 117, 116, 97, 116, 105, 111, 110]) = true := by rw [FL.out, hJ, kk5]; rfl
        obtain ⟨b, o, rfl, hc0⟩ := HV.out 0 a1.val rfl
        obtain ⟨b', o', hbo, hc1⟩ := HV.out 1 a2.val rfl
        obtain ⟨rfl, rfl⟩ : b' = b ∧ o' = o := by simp at hbo; exact ⟨hbo.1.symm, hbo.2.symm⟩
        have k0 : wr.cell? ⟨b', o', none⟩ = some a1.val := (hbel.cell (p := ⟨b', o', none⟩) (World.block_lt_of_cell? w _ hc0)).trans hc0
        have k1 : wr.cell? ⟨b', o' + 1, none⟩ = some a2.val := (hbel.cell (p := ⟨b', o' + 1, none⟩) (World.block_lt_of_cell? w _ hc1)).trans hc1
        obtain ⟨u1, v1, hv1⟩ := a1.val_iface
        obtain ⟨u2, v2, hv2⟩ := a2.val_iface
        rw [hv1] at k0
        rw [hv2] at k1
        have HV1 := hid hv1
        have HV2 := hid hv2
        obtain rfl : n = 2 := hn.out.symm
        have HT := hid hT
        clear hc0 hc1 hbo hv1 hv2 hT hJ
        go_wp2_with fail
        go_quiet (fail)
        go_wp2_with fail
        go_ret2
        exact ⟨by rw [HT.out]; simp only [Ty.val]; rw [HV1.out, HV2.out]; rfl, below_drewN hbel _⟩
      · have t1 : (f.toList == [42, 32, 118, 97, 108, 117, 101, 32, 118, 97, 108, 117, 101]) = false := by rw [FL.out, kk1]; exact beq_eq_false_iff_ne.2 hN1
        have t2 : (f.toList == [117, 32, 99, 111, 109, 112, 117, 116, 97, 116, 105, 111, 110]) = false := by rw [FL.out, kk2]; exact beq_eq_false_iff_ne.2 hN2
        have t3 : (f.toList == [102, 32, 118, 97, 108, 117, 101]) = false := by rw [FL.out, kk3]; exact beq_eq_false_iff_ne.2 hN3
        have t4 : (f.toList == [62, 32, 118, 97, 108, 117, 101, 32, 99, 111, 109, 112, 117, 116, 97, 116, 105, 111, 110]) = false := by rw [FL.out, kk4]; exact beq_eq_false_iff_ne.2 hN4
        have t5 : (f.toList == [38, 32, 99, 111, 109, 112, 117, 116, 97, 116, 105, 111, 110, 32, 99, 111, 109, 112, 117, 116, 97, 116, 105, 111, 110]) = false := by rw [FL.out, kk5]; exact beq_eq_false_iff_ne.2 hN5
        have HT := hid hT
        clear hT hN1 hN2 hN3 hN4 hN5
        go_wp2_with fail
        go_ret2
        exact ⟨by rw [HT.out]; rfl, hbel⟩
end Go.Proofs.YtfogjomebcponaaDoor
