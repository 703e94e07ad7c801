/- The model's helpers on source expressions: l7Shape, l7Is. -/
import Derived.Test.YtinlibkkbjfmeaaDoorSxP
import Derived.Test.YtinlibkkbjfmeaaDoorSrcT
import Derived.Test.YtinlibkkbjfmeaaDoorNamesS
namespace Go.Proofs.YtinlibkkbjfmeaaDoor
open Go.RowKit

/-- A form's signs in the model's letters. -/
def lowS (l : List Fg) : ByteArray := ⟨(l.map Fg.low).toArray⟩
theorem lowS_size (l : List Fg) : (lowS l).size = l.length := by simp [lowS, ByteArray.size]
theorem lowS_get (l : List Fg) (i : Nat) (c : Fg) (h : l[i]? = some c) (hi : i < (lowS l).size) : (lowS l)[i] = c.low := by
  have h1 := toList_get (lowS l) i hi
  rw [Go.ByteArray.toList_eq] at h1
  simp [lowS, h] at h1
  exact h1.symm
/-- What l7Shape answers. -/
def shp7 (l : List UInt8) : ByteArray := lowS ((frm l).getD [])

set_option maxRecDepth 100000 in
set_option maxHeartbeats 1000000 in
theorem l7Shape_any (s : ByteArray) (w : World) : Calls Tryd.prog 42 #[.string s] w fun e w' => e = .returned (.string (shp7 s.toList)) ∧ w = w' := by
  cases e0 : s.toList == [108, 97, 109] with
  | true =>
    have hq := hid (show shp7 s.toList = shp7 [108, 97, 109] by rw [eq_t e0])
    go_enter Tryd.func42, Tryd.ntmps42
    go_wp2
    go_ret
    exact ⟨by rw [hq.out]; rfl, rfl⟩
  | false =>
    cases e1 : s.toList == [97, 112, 112] with
    | true =>
      have hq := hid (show shp7 s.toList = shp7 [97, 112, 112] by rw [eq_t e1])
      go_enter Tryd.func42, Tryd.ntmps42
      go_wp2
      go_ret
      exact ⟨by rw [hq.out]; rfl, rfl⟩
    | false =>
      cases e2 : s.toList == [112, 97, 105, 114] with
      | true =>
        have hq := hid (show shp7 s.toList = shp7 [112, 97, 105, 114] by rw [eq_t e2])
        go_enter Tryd.func42, Tryd.ntmps42
        go_wp2
        go_ret
        exact ⟨by rw [hq.out]; rfl, rfl⟩
      | false =>
        cases e3 : s.toList == [105, 102] with
        | true =>
          have hq := hid (show shp7 s.toList = shp7 [105, 102] by rw [eq_t e3])
          go_enter Tryd.func42, Tryd.ntmps42
          go_wp2
          go_ret
          exact ⟨by rw [hq.out]; rfl, rfl⟩
        | false =>
          cases e4 : s.toList == [102, 115, 116] with
          | true =>
            have hq := hid (show shp7 s.toList = shp7 [102, 115, 116] by rw [eq_t e4])
            go_enter Tryd.func42, Tryd.ntmps42
            go_wp2
            go_ret
            exact ⟨by rw [hq.out]; rfl, rfl⟩
          | false =>
            cases e5 : s.toList == [115, 110, 100] with
            | true =>
              have hq := hid (show shp7 s.toList = shp7 [115, 110, 100] by rw [eq_t e5])
              go_enter Tryd.func42, Tryd.ntmps42
              go_wp2
              go_ret
              exact ⟨by rw [hq.out]; rfl, rfl⟩
            | false =>
              cases e6 : s.toList == [112, 117, 116] with
              | true =>
                have hq := hid (show shp7 s.toList = shp7 [112, 117, 116] by rw [eq_t e6])
                go_enter Tryd.func42, Tryd.ntmps42
                go_wp2
                go_ret
                exact ⟨by rw [hq.out]; rfl, rfl⟩
              | false =>
                cases e7 : s.toList == [102, 97, 105, 108] with
                | true =>
                  have hq := hid (show shp7 s.toList = shp7 [102, 97, 105, 108] by rw [eq_t e7])
                  go_enter Tryd.func42, Tryd.ntmps42
                  go_wp2
                  go_ret
                  exact ⟨by rw [hq.out]; rfl, rfl⟩
                | false =>
                  have hq := hid (show shp7 s.toList = lowS [] by simp only [beq_eq_false_iff_ne, ne_eq] at e0 e1 e2 e3 e4 e5 e6 e7; simp only [shp7, frm, e0, e1, e2, e3, e4, e5, e6, e7, if_false, or_self]; split <;> rfl)
                  go_enter Tryd.func42, Tryd.ntmps42
                  go_wp2
                  go_ret
                  exact ⟨by rw [hq.out]; rfl, rfl⟩

set_option maxRecDepth 100000 in
set_option maxHeartbeats 1000000 in
theorem l7Is_any {w0 : World} {S : Nat → Prop} {t : Tree} {h : Hd} (ht : TIn w0 S t h) (hsz : t.size ≤ 12000) (w : World) (hk : Kept w0 w) (hw : w0.heap.size ≤ w.heap.size) :
    Calls Tryd.prog 44 #[.agg #[.string h.a, .slice h.p h.l h.c]] w fun e w' => e = .returned (.bool (stLim t).isSome) ∧ Below w.heap.size w w' := by
  obtain ⟨pa, pp, pl, pc⟩ := h
  have HC := hid (fun W hk hs => l7Source_any ht W hk hs)
  have HS := hid (fun W hk hs => l1Size_any ht hsz W hk hs)
  have HK := hid (hk.alloc hw (.cells #[.string pa, .slice pp pl pc] 32))
  have HN := hid (fun W (hb : Below (w.alloc (.cells #[.string pa, .slice pp pl pc] 32)).heap.size (w.alloc (.cells #[.string pa, .slice pp pl pc] 32)) W) => cells_of_pair (block_below (heap_new w (.cells #[.string pa, .slice pp pl pc] 32) _ rfl) hb (by simp)))
  clear ht hk
  obtain ⟨bx, hbx⟩ : ∃ bx, bx = t.sty.isSome := ⟨_, rfl⟩
  rw [← hbx] at HC
  cases bx with
  | false =>
    have HR := hid (show (stLim t).isSome = false by
      rw [stLim]; split
      · exact hbx.symm
      · rfl)
    clear hbx
    go_enter Tryd.func44, Tryd.ntmps44
    go_wp2_with (go_at_call 62; refine (HC.out _ HK.out (by simp; omega)).mono ?_; rintro e w1 ⟨rfl, hb1⟩)
    go_ret
    exact ⟨ret_bool HR.out.symm, ((Below.refl _ _).alloc (Nat.le_refl _) _).trans (hb1.mono (by simp))⟩
  | true =>
    have HR := hid (show (stLim t).isSome = decide ((t.size : Int) ≤ 12) by
      rw [stLim]
      by_cases h : t.size ≤ 12
      · rw [if_pos h, decide_eq_true (by omega)]; exact hbx.symm
      · rw [if_neg h, decide_eq_false (by omega)]; rfl)
    clear hbx
    go_enter Tryd.func44, Tryd.ntmps44
    go_wp2_with (first | (go_at_call 62; refine (HC.out _ HK.out (by simp; omega)).mono ?_; rintro e w1 ⟨rfl, hb1⟩; obtain ⟨c1, c2, -, -⟩ := HN.out w1 hb1; have s1 := hb1.size; simp at s1) | (go_at_call 28; refine (HS.out _ (HK.out.below hb1 (by simp; omega)) (by omega)).mono ?_; rintro e w2 ⟨rfl, hb2⟩))
    go_ret
    exact ⟨ret_bool HR.out.symm, ((Below.refl _ _).alloc (Nat.le_refl _) _).trans ((hb1.mono (by simp)).trans (hb2.mono (by omega)))⟩
end Go.Proofs.YtinlibkkbjfmeaaDoor
