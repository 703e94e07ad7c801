/- Merged: CountC. -/
import Derived.Maps.OwnSet
import Derived.Maps.AppendAt
import Derived.Test.YtagifgekhboinaaGreatDoorDA13
namespace Go.Proofs.YtagifgekhboinaaGreatDoor
open Go.RowKit Go.Maps

/-- A type's text tells the type. -/
theorem write_inj : ∀ (a b : Ty) (r s : List UInt8), a.write ++ r = b.write ++ s → a = b ∧ r = s
  | .bit, b, r, s, h => by cases b <;> simp [Ty.write] at h ⊢; exact h
  | .pair x y, b, r, s, h => by
    cases b <;> simp [Ty.write] at h
    rename_i u v
    obtain ⟨rfl, h1⟩ := write_inj x u _ _ h
    simp at h1
    obtain ⟨rfl, h2⟩ := write_inj y v _ _ h1
    simp at h2
    exact ⟨rfl, h2⟩
  | .thunk x, b, r, s, h => by
    cases b <;> simp [Ty.write] at h
    rename_i u
    obtain ⟨rfl, h1⟩ := write_inj x u _ _ h
    simp at h1
    exact ⟨rfl, h1⟩
  | .ret x, b, r, s, h => by
    cases b <;> simp [Ty.write] at h
    rename_i u
    obtain ⟨rfl, h1⟩ := write_inj x u _ _ h
    simp at h1
    exact ⟨rfl, h1⟩
  | .fn x y, b, r, s, h => by
    cases b <;> simp [Ty.write] at h
    rename_i u v
    obtain ⟨rfl, h1⟩ := write_inj x u _ _ h
    simp at h1
    obtain ⟨rfl, h2⟩ := write_inj y v _ _ h1
    simp at h2
    exact ⟨rfl, h2⟩
  | .choice x y, b, r, s, h => by
    cases b <;> simp [Ty.write] at h
    rename_i u v
    obtain ⟨rfl, h1⟩ := write_inj x u _ _ h
    simp at h1
    obtain ⟨rfl, h2⟩ := write_inj y v _ _ h1
    simp at h2
    exact ⟨rfl, h2⟩
theorem write_eq {a b : Ty} (h : a.write = b.write) : a = b := (write_inj a b [] [] (by rw [h])).1

theorem law9 : Keyed Tryz.prog 9 := string_keyed Tryz.underlying9
theorem zero3 (w : World) : (zeroValue 3).run Tryz.prog w = .ok (.int .i64 0) w := by kernel_rfl
/-- What a map of counts tells is right. -/
def Good (D : DataW Unit) : Prop := ∀ t : Ty, Maps.has D (.string t.write) = true → ∀ z, D.atKey (.string t.write) z = .lit (.int .i64 (cntV t.cnt))
/-- What a count over a map of counts leaves. -/
def CPost (b n k : Nat) (v : Int) (w : World) (e : Ending) (w' : World) : Prop := e = .returned (.int .i64 v) ∧ w.grownBy w' (some b) ∧ ∃ n' D', n' ≤ n + k ∧ w'.ownsMap Tryz.prog 9 (plainElem Tryz.prog 3) b n' D' ∧ Good D'
theorem good_none : Good (.map []) := by
  intro t h
  simp [Maps.has] at h
theorem good_put {D : DataW Unit} (h : Good D) (hm : IsMap D) (t : Ty) : Good (D.put (.string t.write) (.lit (.int .i64 (cntV t.cnt)))) := by
  intro u hu z
  by_cases he : u = t
  · subst he
    exact atKey_put_same hm (by first | trivial | (unfold Go.WideAt.IsKeyLit; simp) | simp [Go.WideAt.IsKeyLit]) _ _
  · have hne : (Lit.string u.write) ≠ .string t.write := fun e => he (write_eq (by simpa using e))
    rw [atKey_put_other hne]
    rw [has_put_other hne] at hu
    exact h u hu z
theorem cntV_wf (t : Ty) : (Lit.int .i64 (cntV t.cnt)).wf = true := by
  cases h : t.cnt with
  | none => decide
  | some n =>
    have := cnt_range t n h
    have h1 : IntKind.i64.min ≤ (n : Int) := by have h0 : IntKind.i64.min ≤ 0 := by decide
                                                omega
    have h2 : (n : Int) ≤ IntKind.i64.max := by have h0 : (5000 : Int) ≤ IntKind.i64.max := by decide
                                                omega
    show (decide (IntKind.i64.min ≤ (n : Int)) && decide ((n : Int) ≤ IntKind.i64.max)) = true
    rw [decide_eq_true h1, decide_eq_true h2]; rfl
theorem grown_any {w w' : World} (h : Below w.heap.size w w') (row : Option Nat) : w.grownBy w' row := ⟨h.os, h.tape, h.output, h.size, fun k hk _ => h.block k hk⟩
theorem text_data (t : Ty) : t.text.data.toList = t.write := by rw [← Go.ByteArray.toList_eq, text_toList]

set_option maxRecDepth 100000 in
set_option maxHeartbeats 1000000 in
theorem of_go (t : Ty) (hs : t.write.length ≤ 12000) (w : World) (b n : Nat) (D : DataW Unit) (hown : w.ownsMap Tryz.prog 9 (plainElem Tryz.prog 3) b n D) (hg : Good D) (hn : n + t.write.length ≤ 1000000) (h1 : 1 ≤ t.write.length)
    (hc : ∀ W n D, W.ownsMap Tryz.prog 9 (plainElem Tryz.prog 3) b n D → Good D → n + (t.write.length - 1) ≤ 1000000 → Calls Tryz.prog 62 #[.map (some b), t.val] W (CPost b n (t.write.length - 1) (cntV t.cnt) W)) :
    Calls Tryz.prog 33 #[.map (some b), t.val] w (CPost b n t.write.length (cntV t.cnt) w) := by
  have HC := hid hc
  have HO := hid hown
  have HG := hid hg
  have HTX := hid (typeText_any t hs)
  have hkey := hid (show keyOf Tryz.prog 9 (.string t.text) = some (.string t.write) by rw [Go.WideMaps.keyOf_string_mk Tryz.underlying9 (by rw [text_size]; unfold maxLen; omega), text_data])
  obtain ⟨L, hL⟩ : ∃ L, t.write.length = L := ⟨_, rfl⟩
  rw [hL] at hn h1 hs HC ⊢
  clear hc hown hg hL
  have hbl := HO.out.lt
  obtain ⟨u, v, hv⟩ := t.val_iface
  rw [hv] at HTX HC ⊢
  clear hv
  cases hh : Maps.has D (.string t.write) with
  | true =>
    have HAT := hid (HG.out t hh)
    have HH := hid hh
    clear hh
    go_enter Tryz.func33, Tryz.ntmps33
    go_wp2_with (first | (go_at_call 61; refine (HTX.out _).mono ?_; rintro e w1 ⟨rfl, hb1⟩) | (at_lookup; refine wpList_lookup_own_ok_int _ rfl _ _ 71 rfl 9 3 .i64 law9 Tryz.underlying71 Tryz.underlying3 (zero3 _) b n D rfl (HO.out.kept (row := none) (Below.grownBy hb1 (Nat.le_refl _)) (by simp)) _ _ rfl hkey.out ?_; intro c hat hwc; rw [HAT.out] at hat; rw [HH.out]; obtain rfl : cntV t.cnt = c := by simpa using hat))
    go_ret
    exact ⟨rfl, grown_any hb1 _, n, D, by omega, HO.out.kept (row := none) (grown_any hb1 _) (by simp), HG.out⟩
  | false =>
    have HH := hid hh
    clear hh
    have HV := hid (plainElem_int (H := Unit) Tryz.underlying3 (cntV_wf t))
    have HGP := hid (fun (D' : DataW Unit) (h : Good D') (hm : IsMap D') => good_put h hm t)
    obtain ⟨V, hV⟩ : ∃ V, cntV t.cnt = V := ⟨_, rfl⟩
    rw [hV] at HV HGP HC ⊢
    clear hV
    go_enter Tryz.func33, Tryz.ntmps33
    go_wp2_with (first
      | (go_at_call 61; refine (HTX.out _).mono ?_; rintro e w1 ⟨rfl, hb1⟩; have HO1 := hid (HO.out.kept (row := none) (grown_any hb1 _) (by simp)))
      | (at_lookup; refine wpList_lookup_own_ok_int _ rfl _ _ 71 rfl 9 3 .i64 law9 Tryz.underlying71 Tryz.underlying3 (zero3 _) b n D rfl HO1.out _ _ rfl hkey.out ?_; intro c hat hwc; have HAT := hid hat; clear hat; rw [HH.out])
      | (go_at_call 62; refine (HC.out _ n D HO1.out HG.out (by omega)).mono ?_; rintro e w2 ⟨rfl, hg2, n2, D2, hn2, hown2, hgd2⟩; have HO2 := hid hown2; have HG2 := hid hgd2; have HW2 := hid hg2; clear hown2 hgd2 hg2; have hmx : n2 < maxLen := (by unfold maxLen; omega))
      | (at_mapUpdate; refine wpList_mapUpdate_own _ rfl _ _ _ 71 rfl 9 3 law9 Tryz.underlying71 _ b n2 D2 rfl HO2.out hmx _ _ _ rfl rfl hkey.out _ [] HV.out ?_; intro w3 hown3 hg3; have HO3 := hid hown3; have HW3 := hid hg3; clear hown3 hg3))
    go_ret
    exact ⟨rfl, ((grown_any hb1 _).trans HW2.out).trans HW3.out, n2 + 1, _, by omega, HO3.out, HGP.out _ HG2.out HO2.out.isMap⟩
end Go.Proofs.YtagifgekhboinaaGreatDoor
