/- Both readings of a type are one; the law of TypeKind, walked. -/
import Derived.Test.YtmofcpckhcmaiaaTyC
namespace Go.Proofs.Ytmofcpckhcmaiaa
open Go.RowKit

theorem l1IfP_bad {ks b : List ByteArray} {kind x : ByteArray} (hx : x ∈ ks) (h0 : x.toList = []) (hb : ∀ y ∈ b, y.toList ≠ []) : l1IfP ks b kind = ByteArray.empty := by
  rw [l1IfP, if_neg]
  intro e
  have : ([] : List UInt8) ∈ b.map (·.toList) := by rw [← e]; exact List.mem_map.2 ⟨x, hx, h0⟩
  obtain ⟨y, hy, hy0⟩ := List.mem_map.1 this
  exact hb y hy hy0
theorem strV_ne : strV.toList ≠ [] := by rw [strV_toList]; decide
theorem strC_ne : strC.toList ≠ [] := by rw [strC_toList]; decide
theorem nodeKind_bad {hd : ByteArray} {ks : List ByteArray} {x : ByteArray} (hx : x ∈ ks) (h0 : x.toList = []) : nodeKind hd ks = ByteArray.empty := by
  have h : ∀ (b : List ByteArray) (kind : ByteArray), (∀ y ∈ b, y = strV ∨ y = strC) → l1IfP ks b kind = ByteArray.empty := fun b kind hb => l1IfP_bad hx h0 (fun y hy => by rcases hb y hy with rfl | rfl; exact strV_ne; exact strC_ne)
  unfold nodeKind
  rw [h [strV, strV] _ (by simp), h [strC] _ (by simp), h [strV] _ (by simp), h [strV, strC] _ (by simp), h [strC, strC] _ (by simp)]
  repeat (split; rfl)
  rfl
theorem l1IfP_kinds (ks : List Ty) (b : List Ty) (kind : ByteArray) : l1IfP (ks.map Ty.kindS) (b.map Ty.kindS) kind = if ks.map Ty.isVal = b.map Ty.isVal then kind else ByteArray.empty := by
  have e : ∀ l : List Ty, (l.map Ty.kindS).map (·.toList) = l.map Ty.kindL := fun l => by rw [List.map_map]; exact List.map_congr_left fun t _ => kindS_toList t
  have inj : ∀ l l' : List Ty, l.map Ty.kindL = l'.map Ty.kindL ↔ l.map Ty.isVal = l'.map Ty.isVal := by
    intro l; induction l with
    | nil => intro l'; cases l' <;> simp
    | cons a l ih =>
      intro l'; cases l' with
      | nil => simp
      | cons c l' =>
        simp only [List.map_cons, List.cons.injEq, ih l']
        have : a.kindL = c.kindL ↔ a.isVal = c.isVal := by
          unfold Ty.kindL; cases a.isVal <;> cases c.isVal <;> simp [lV, lC]
        rw [this]
  rw [l1IfP, e, e]
  by_cases h : ks.map Ty.isVal = b.map Ty.isVal
  · rw [if_pos ((inj _ _).2 h), if_pos h]
  · rw [if_neg (fun x => h ((inj _ _).1 x)), if_neg h]
/-- The word for a kind of type, or nothing. -/
def kindOf : Option Ty → ByteArray
  | some t => t.kindS
  | none => ByteArray.empty
theorem nodeKind_kinds (hd : ByteArray) (ks : List Ty) : nodeKind hd (ks.map Ty.kindS) = kindOf (tyParts hd.toList ks) := by
  have e1 : [strV, strV] = [Ty.bit, Ty.bit].map Ty.kindS := rfl
  have e2 : [strC] = [Ty.ret Ty.bit].map Ty.kindS := rfl
  have e3 : [strV] = [Ty.bit].map Ty.kindS := rfl
  have e4 : [strV, strC] = [Ty.bit, Ty.ret Ty.bit].map Ty.kindS := rfl
  have e5 : [strC, strC] = [Ty.ret Ty.bit, Ty.ret Ty.bit].map Ty.kindS := rfl
  unfold nodeKind
  rw [e1, e4, e5, e2, e3, l1IfP_kinds, l1IfP_kinds, l1IfP_kinds, l1IfP_kinds, l1IfP_kinds]
  clear e1 e2 e3 e4 e5
  generalize hd.toList = L
  have i1 : Ty.bit.isVal = true := rfl
  have i2 : ∀ a, (Ty.ret a).isVal = false := fun _ => rfl
  have g1 : ∀ a b, (Ty.pair a b).kindS = strV := fun _ _ => rfl
  have g2 : ∀ a, (Ty.thunk a).kindS = strV := fun _ => rfl
  have g3 : ∀ a, (Ty.ret a).kindS = strC := fun _ => rfl
  have g4 : ∀ a b, (Ty.fn a b).kindS = strC := fun _ _ => rfl
  have g5 : ∀ a b, (Ty.choice a b).kindS = strC := fun _ _ => rfl
  match ks with
  | [] => simp [tyParts, kindOf]
  | [a] =>
    by_cases h1 : L = [42]
    · subst h1; cases ha : a.isVal <;> simp_all [tyParts, kindOf]
    by_cases h2 : L = [117]
    · subst h2; cases ha : a.isVal <;> simp_all [tyParts, kindOf]
    by_cases h3 : L = [102]
    · subst h3; cases ha : a.isVal <;> simp_all [tyParts, kindOf]
    by_cases h4 : L = [62]
    · subst h4; cases ha : a.isVal <;> simp_all [tyParts, kindOf]
    by_cases h5 : L = [38]
    · subst h5; cases ha : a.isVal <;> simp_all [tyParts, kindOf]
    simp [tyParts, kindOf, h1, h2, h3, h4, h5]
  | [a, b] =>
    by_cases h1 : L = [42]
    · subst h1; cases ha : a.isVal <;> cases hb : b.isVal <;> simp_all [tyParts, kindOf]
    by_cases h2 : L = [117]
    · subst h2; cases ha : a.isVal <;> cases hb : b.isVal <;> simp_all [tyParts, kindOf]
    by_cases h3 : L = [102]
    · subst h3; cases ha : a.isVal <;> cases hb : b.isVal <;> simp_all [tyParts, kindOf]
    by_cases h4 : L = [62]
    · subst h4; cases ha : a.isVal <;> cases hb : b.isVal <;> simp_all [tyParts, kindOf]
    by_cases h5 : L = [38]
    · subst h5; cases ha : a.isVal <;> cases hb : b.isVal <;> simp_all [tyParts, kindOf]
    simp [tyParts, kindOf, h1, h2, h3, h4, h5]
  | a :: b :: c :: r => simp [tyParts, kindOf]

mutual
theorem kind_ty : ∀ t : Tree, t.kind = kindOf t.ty
  | .atom s => by
    rw [Tree.kind, Tree.ty]
    by_cases h : s.toList = [98]
    · rw [if_pos h, if_pos h]; rfl
    · rw [if_neg h, if_neg h]; rfl
  | .node [] => by rw [Tree.kind, Tree.ty]; exact nodeKind_empty _
  | .node (q :: qs) => by
    rw [Tree.kind, Tree.ty, Tree.kinds]
    have hh : (Tree.node (q :: qs)).headAtom = q.text := rfl
    rw [hh, List.drop_one, List.tail_cons]
    rcases kinds_tys qs with ⟨ks, h1, h2⟩ | ⟨h1, x, hx, h0⟩
    · rw [h1, h2]; exact nodeKind_kinds _ _
    · rw [h1]; exact nodeKind_bad hx h0
theorem kinds_tys : ∀ ps : List Tree, (∃ ks, Tree.tys ps = some ks ∧ Tree.kinds ps = ks.map Ty.kindS) ∨ (Tree.tys ps = none ∧ ∃ x ∈ Tree.kinds ps, x.toList = [])
  | [] => Or.inl ⟨[], rfl, rfl⟩
  | p :: ps => by
    have hp := kind_ty p
    have hps := kinds_tys ps
    cases ht : p.ty with
    | none =>
      refine Or.inr ⟨by rw [Tree.tys, ht], p.kind, by simp [Tree.kinds], ?_⟩
      rw [hp, ht]; exact empty_toList
    | some t =>
      rcases hps with ⟨ks, h1, h2⟩ | ⟨h1, x, hx, h0⟩
      · refine Or.inl ⟨t :: ks, by rw [Tree.tys, ht, h1], ?_⟩
        rw [Tree.kinds, h2, hp, ht]; rfl
      · refine Or.inr ⟨by rw [Tree.tys, ht, h1], x, by simp [Tree.kinds, hx], h0⟩
end
theorem kindS_some (t : Ty) : t.kindS.toList.isEmpty = false := by
  unfold Ty.kindS; split
  · rw [strV_toList]; rfl
  · rw [strC_toList]; rfl
/-- Both readings of a type are one. -/
theorem typeTree_some {s : ByteArray} {t : Tree} (h : typeTree s = some t) : parse s = some t ∧ t.size ≤ 12 ∧ ∃ ty, t.ty = some ty ∧ readTy s = some ty ∧ t.kind = ty.kindS := by
  unfold typeTree at h
  cases hp : parse s with
  | none => rw [hp] at h; simp at h
  | some u =>
    rw [hp] at h; simp only at h
    split at h
    · rename_i hc
      simp at h; subst h
      have hk := kind_ty u
      cases hty : u.ty with
      | none => rw [hk, hty, kindOf, empty_toList] at hc; simp at hc
      | some ty => exact ⟨rfl, hc.2, ty, rfl, by rw [readTy, hp]; simp [hc.2, hty], by rw [hk, hty]; rfl⟩
    · simp at h
theorem typeTree_none {s : ByteArray} (h : typeTree s = none) : readTy s = none := by
  unfold typeTree at h
  unfold readTy
  cases hp : parse s with
  | none => rfl
  | some u =>
    rw [hp] at h; simp only at h ⊢
    by_cases h12 : u.size ≤ 12
    · rw [if_pos h12]
      cases hty : u.ty with
      | none => rfl
      | some ty =>
        exfalso
        have hk := kind_ty u
        rw [hty] at hk
        have := kindS_some ty
        rw [show ty.kindS = u.kind from hk.symm] at this
        rw [if_pos ⟨this, h12⟩] at h
        simp at h
    · rw [if_neg h12]

set_option maxHeartbeats 1000000 in
theorem implTypeKind_any (s : ByteArray) (hs : s.size ≤ 2000000) (w : World) : Calls Try.prog 20 #[.string s] w fun e w' => e = .returned (.string (kindOf (readTy s))) ∧ Below w.heap.size w w' := by
  have HC := hid (fun W => readType_any s hs W)
  cases hr : readTy s with
  | none =>
    have HR := hid hr
    clear hr
    go_enter Try.func20, Try.ntmps20
    go_wp2_with (go_at_call 51; refine (HC.out _).mono ?_; rintro e w1 hp; rw [HR.out] at hp; obtain ⟨rfl, hb1⟩ := hp.none; clear hp)
    go_ret
    exact ⟨rfl, hb1⟩
  | some ty =>
    cases ty with
    | bit =>
      have mk := m_kind_bit 
      have HR := hid hr
      clear hr
      go_enter Try.func20, Try.ntmps20
      go_wp2_with (first | (go_at_call 51; refine (HC.out _).mono ?_; rintro e w1 hp; rw [HR.out] at hp; obtain ⟨he1, hb1⟩ := hp.some; simp only [Ty.val] at he1; subst he1; clear hp) | (go_at_call 124; refine (kind_bit _).mono ?_; rintro e w2 ⟨rfl, hb2⟩))
      go_ret
      exact ⟨rfl, hb1.trans (hb2.mono hb1.size)⟩
    | pair x y =>
      have mk := m_kind_pair x.val y.val
      have HR := hid hr
      clear hr
      go_enter Try.func20, Try.ntmps20
      go_wp2_with (first | (go_at_call 51; refine (HC.out _).mono ?_; rintro e w1 hp; rw [HR.out] at hp; obtain ⟨he1, hb1⟩ := hp.some; simp only [Ty.val] at he1; subst he1; clear hp) | (go_at_call 128; refine (kind_pair _ _ _).mono ?_; rintro e w2 ⟨rfl, hb2⟩))
      go_ret
      exact ⟨rfl, hb1.trans (hb2.mono hb1.size)⟩
    | thunk x =>
      have mk := m_kind_thunk x.val
      have HR := hid hr
      clear hr
      go_enter Try.func20, Try.ntmps20
      go_wp2_with (first | (go_at_call 51; refine (HC.out _).mono ?_; rintro e w1 hp; rw [HR.out] at hp; obtain ⟨he1, hb1⟩ := hp.some; simp only [Ty.val] at he1; subst he1; clear hp) | (go_at_call 132; refine (kind_thunk _ _).mono ?_; rintro e w2 ⟨rfl, hb2⟩))
      go_ret
      exact ⟨rfl, hb1.trans (hb2.mono hb1.size)⟩
    | ret x =>
      have mk := m_kind_ret x.val
      have HR := hid hr
      clear hr
      go_enter Try.func20, Try.ntmps20
      go_wp2_with (first | (go_at_call 51; refine (HC.out _).mono ?_; rintro e w1 hp; rw [HR.out] at hp; obtain ⟨he1, hb1⟩ := hp.some; simp only [Ty.val] at he1; subst he1; clear hp) | (go_at_call 136; refine (kind_ret _ _).mono ?_; rintro e w2 ⟨rfl, hb2⟩))
      go_ret
      exact ⟨rfl, hb1.trans (hb2.mono hb1.size)⟩
    | fn x y =>
      have mk := m_kind_fn x.val y.val
      have HR := hid hr
      clear hr
      go_enter Try.func20, Try.ntmps20
      go_wp2_with (first | (go_at_call 51; refine (HC.out _).mono ?_; rintro e w1 hp; rw [HR.out] at hp; obtain ⟨he1, hb1⟩ := hp.some; simp only [Ty.val] at he1; subst he1; clear hp) | (go_at_call 140; refine (kind_fn _ _ _).mono ?_; rintro e w2 ⟨rfl, hb2⟩))
      go_ret
      exact ⟨rfl, hb1.trans (hb2.mono hb1.size)⟩
    | choice x y =>
      have mk := m_kind_choice x.val y.val
      have HR := hid hr
      clear hr
      go_enter Try.func20, Try.ntmps20
      go_wp2_with (first | (go_at_call 51; refine (HC.out _).mono ?_; rintro e w1 hp; rw [HR.out] at hp; obtain ⟨he1, hb1⟩ := hp.some; simp only [Ty.val] at he1; subst he1; clear hp) | (go_at_call 144; refine (kind_choice _ _ _).mono ?_; rintro e w2 ⟨rfl, hb2⟩))
      go_ret
      exact ⟨rfl, hb1.trans (hb2.mono hb1.size)⟩

set_option maxHeartbeats 1000000 in
theorem specTypeKind_any (s : ByteArray) (hs : s.size ≤ 2000000) (w : World) : Calls Try.prog 19 #[.string s] w fun e w' => e = .returned (.string (kindOf (readTy s))) ∧ Below w.heap.size w w' := by
  have HC := hid (fun W => l1Type_any s hs W)
  cases ht : typeTree s with
  | none =>
    have HR := hid (typeTree_none ht)
    have HT := hid ht
    clear ht
    go_enter Try.func19, Try.ntmps19
    go_wp2_with (go_at_call 53; refine (HC.out _).mono ?_; rintro e w1 hp; rw [HT.out] at hp; obtain ⟨pa, pp, pl, pc, rfl, hpl, hb1⟩ := hp.none; clear hp)
    go_ret
    exact ⟨ret_str (by rw [HR.out]; rfl), hb1.alloc hb1.size _⟩
  | some t =>
    obtain ⟨hpt, hsz, ty, hty, hrt, hk⟩ := typeTree_some ht
    have hwt := parse_wt hpt
    have HR := hid hrt
    have HK := hid hk
    have HT := hid ht
    clear ht hpt hty hrt hk
    go_enter Try.func19, Try.ntmps19
    go_wp2_with (first | (go_at_call 53; refine (HC.out _).mono ?_; rintro e w1 hp; rw [HT.out] at hp; obtain ⟨pa, pp, pl, pc, rfl, hb1, htr⟩ := hp.some; clear hp; have HD := hid (fun W hk hs => l1Kind_any htr hwt W hk hs); clear htr) | (go_at_call 54; refine (HD.out _ ((Kept.refl _).alloc (Nat.le_refl _) _) (by simp)).mono ?_; rintro e w2 ⟨rfl, hb2⟩))
    go_ret
    have s1 := hb1.size
    exact ⟨ret_str (by rw [HR.out, HK.out]; rfl), hb1.trans (((Below.refl _ _).alloc s1 _).trans (hb2.mono (by simp; omega)))⟩

set_option maxHeartbeats 1000000 in
theorem lawTypeKind (s : ByteArray) (hs : s.size ≤ 9223372036854775807) (w : World) : Calls Try.prog 4 #[.string s] w fun e w' => e = .returned (.bool true) ∧ Below w.heap.size w w' := by
  by_cases h : s.size ≤ 1048576
  · have HA := hid (fun W => specTypeKind_any s (by omega) W)
    have HB := hid (fun W => implTypeKind_any s (by omega) W)
    have hq : (!(kindOf (readTy s)).toList == (kindOf (readTy s)).toList) = false := by simp
    go_enter Try.func4, Try.ntmps4
    go_wp2_with (first | (go_at_call 19; refine (HA.out _).mono ?_; rintro e w1 ⟨rfl, hb1⟩) | (go_at_call 20; refine (HB.out _).mono ?_; rintro e w2 ⟨rfl, hb2⟩))
    go_ret
    exact ⟨rfl, hb1.trans (hb2.mono hb1.size)⟩
  · have h2 : 1048576 < s.size := by omega
    clear h
    go_enter Try.func4, Try.ntmps4
    go_wp2
    go_ret
    exact ⟨rfl, Below.refl _ _⟩
end Go.Proofs.Ytmofcpckhcmaiaa
