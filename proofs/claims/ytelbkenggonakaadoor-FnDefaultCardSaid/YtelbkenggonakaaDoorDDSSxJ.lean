/- Merged: SxJ. -/
import Derived.Test.YtelbkenggonakaaDoorDD10
import Derived.Test.YtelbkenggonakaaDoorDDSNames
namespace Go.Proofs.YtelbkenggonakaaDoor
open Go.RowKit

/-- A form's signs in the program's letters. -/
def upG (l : List Fg) : ByteArray := ⟨(l.map Fg.up).toArray⟩
theorem upG_size (l : List Fg) : (upG l).size = l.length := by simp [upG, ByteArray.size]
theorem upG_get (l : List Fg) (i : Nat) (c : Fg) (h : l[i]? = some c) (hi : i < (upG l).size) : (upG l)[i] = c.up := by
  have h1 := toList_get (upG l) i hi
  rw [Go.ByteArray.toList_eq] at h1
  simp [upG, h] at h1
  exact h1.symm
/-- What sourceForm answers. -/
def frmV (l : List UInt8) : Value := .tuple #[.string (upG ((frm l).getD [])), .bool (frm l).isSome]

set_option maxRecDepth 100000 in
set_option maxHeartbeats 1000000 in
theorem sourceForm_any (s : ByteArray) (w : World) : Calls Tryd.prog 41 #[.string s] w fun e w' => e = .returned (frmV s.toList) ∧ w = w' := by
  cases e0 : s.toList == [108, 97, 109] with
  | true =>
    have hq := hid (show frmV s.toList = frmV [108, 97, 109] by rw [eq_t e0])
    go_enter Tryd.func41, Tryd.ntmps41
    go_wp2
    go_ret2
    exact ⟨by rw [hq.out]; rfl, rfl⟩
  | false =>
    cases e1 : s.toList == [105, 102] with
    | true =>
      have hq := hid (show frmV s.toList = frmV [105, 102] by rw [eq_t e1])
      go_enter Tryd.func41, Tryd.ntmps41
      go_wp2
      go_ret2
      exact ⟨by rw [hq.out]; rfl, rfl⟩
    | false =>
      cases e2 : s.toList == [97, 112, 112] with
      | true =>
        have hq := hid (show frmV s.toList = frmV [97, 112, 112] by rw [eq_t e2])
        go_enter Tryd.func41, Tryd.ntmps41
        go_wp2
        go_ret2
        exact ⟨by rw [hq.out]; rfl, rfl⟩
      | false =>
        cases e3 : s.toList == [112, 97, 105, 114] with
        | true =>
          have hq := hid (show frmV s.toList = frmV [112, 97, 105, 114] by rw [eq_t e3])
          go_enter Tryd.func41, Tryd.ntmps41
          go_wp2
          go_ret2
          exact ⟨by rw [hq.out]; rfl, rfl⟩
        | false =>
          cases e4 : s.toList == [102, 115, 116] with
          | true =>
            have hq := hid (show frmV s.toList = frmV [102, 115, 116] by rw [eq_t e4])
            go_enter Tryd.func41, Tryd.ntmps41
            go_wp2
            go_ret2
            exact ⟨by rw [hq.out]; rfl, rfl⟩
          | false =>
            cases e5 : s.toList == [115, 110, 100] with
            | true =>
              have hq := hid (show frmV s.toList = frmV [115, 110, 100] by rw [eq_t e5])
              go_enter Tryd.func41, Tryd.ntmps41
              go_wp2
              go_ret2
              exact ⟨by rw [hq.out]; rfl, rfl⟩
            | false =>
              cases e6 : s.toList == [112, 117, 116] with
              | true =>
                have hq := hid (show frmV s.toList = frmV [112, 117, 116] by rw [eq_t e6])
                go_enter Tryd.func41, Tryd.ntmps41
                go_wp2
                go_ret2
                exact ⟨by rw [hq.out]; rfl, rfl⟩
              | false =>
                cases e7 : s.toList == [103, 101, 116] with
                | true =>
                  have hq := hid (show frmV s.toList = frmV [103, 101, 116] by rw [eq_t e7])
                  go_enter Tryd.func41, Tryd.ntmps41
                  go_wp2
                  go_ret2
                  exact ⟨by rw [hq.out]; rfl, rfl⟩
                | false =>
                  cases e8 : s.toList == [102, 97, 105, 108] with
                  | true =>
                    have hq := hid (show frmV s.toList = frmV [102, 97, 105, 108] by rw [eq_t e8])
                    go_enter Tryd.func41, Tryd.ntmps41
                    go_wp2
                    go_ret2
                    exact ⟨by rw [hq.out]; rfl, rfl⟩
                  | false =>
                    have hq := hid (show frmV s.toList = .tuple #[.string ByteArray.empty, .bool false] by simp only [beq_eq_false_iff_ne, ne_eq] at e0 e1 e2 e3 e4 e5 e6 e7 e8; simp only [frmV, frm, e0, e1, e2, e3, e4, e5, e6, e7, e8, if_false, or_self]; rfl)
                    go_enter Tryd.func41, Tryd.ntmps41
                    go_wp2
                    go_ret2
                    exact ⟨by rw [hq.out]; rfl, rfl⟩

theorem leaf7 {w : World} {e : Sx} {b : Nat} (hb : w.heap[b]? = some (.cells #[.string e.head, .string e.atom, .string ByteArray.empty, .pointer none, .slice none 0 0] 69 (0, 0))) (h1 : e.nm = ByteArray.empty) (h2 : e.ty = none) (h3 : e.kids = []) {S : Nat → Prop} (hS : S b) : XIn w S e b :=
  .mk e b (.pointer none) none 0 0 (fun _ => 0) hS (by rw [h1]; exact hb) (by rw [h2]; exact rfl) (by rw [h3]; rfl) (Nat.le_refl _) (fun i v h => by simp [ptrs] at h) (fun i k h => by rw [h3] at h; simp at h)

set_option maxRecDepth 100000 in
set_option maxHeartbeats 1000000 in
theorem sourceOfAtom_any (s : ByteArray) (hs : s.size ≤ 400000000) (w : World) : Calls Tryd.prog 40 #[.string s] w (X7Post (atomSx s) w) := by
  have HN := hid (fun W => isName_any s hs W)
  by_cases hb : s.toList = [48] ∨ s.toList = [49]
  · have HR := hid (show atomSx s = some (.bit s) by rw [atomSx, if_pos hb])
    cases e0 : s.toList == [48] with
    | true =>
      clear hb
      go_enter Tryd.func40, Tryd.ntmps40
      go_wp2
      go_ret2
      rw [HR.out]
      exact x7_some ((Below.refl _ _).alloc (Nat.le_refl _) _) (leaf7 (e := .bit s) (heap_alloc_new _ _) rfl rfl rfl (Nat.le_refl _))
    | false =>
      have e1 : (s.toList == [49]) = true := by rcases hb with h | h; (· simp [h] at e0); (· simp [h])
      clear hb
      go_enter Tryd.func40, Tryd.ntmps40
      go_wp2
      go_ret2
      rw [HR.out]
      exact x7_some ((Below.refl _ _).alloc (Nat.le_refl _) _) (leaf7 (e := .bit s) (heap_alloc_new _ _) rfl rfl rfl (Nat.le_refl _))
  · have e0 : (s.toList == [48]) = false := by simp; exact fun h => hb (Or.inl h)
    have e1 : (s.toList == [49]) = false := by simp; exact fun h => hb (Or.inr h)
    have HR := hid (show atomSx s = if nameB s.toList = true then some (.name s) else none by rw [atomSx, if_neg hb])
    clear hb
    go_enter Tryd.func40, Tryd.ntmps40
    go_wp2_with (go_at_call 51; refine (HN.out _).mono ?_; rintro e w1 ⟨rfl, hb1⟩)
    go_ret2
    rw [HR.out]
    have hbw : Below w.heap.size w w1 := ((Below.refl _ _).alloc (Nat.le_refl _) _).trans (hb1.mono (by simp))
    cases nameB s.toList with
    | true => exact x7_some hbw (leaf7 (e := .name s) (block_below (heap_alloc_new _ _) hb1 (by simp)) rfl rfl rfl (Nat.le_refl _))
    | false => exact x7_none hbw
end Go.Proofs.YtelbkenggonakaaDoor
