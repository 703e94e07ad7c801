/- Merged: ShapeF, Names, Shape, NamesS. -/
import Derived.Test.YtocegmgdbmbkkaaGreatDoorShelf
import Derived.Shelf.Strings.SlTrimAscii
import Derived.Deep.QuietTactic
import Derived.BigQuiet
import Derived.Test.YtocegmgdbmbkkaaGreatDoorDM8
namespace Go.Proofs.YtocegmgdbmbkkaaGreatDoor
open Go.RowKit

/-- A shape's signs in the program's letters, and in the model's. -/
def Sg.up : Sg → UInt8
  | .V => 86
  | .M => 77
  | .X => 120
  | .A => 65
  | .C => 67
def Sg.lo : Sg → UInt8
  | .V => 118
  | .M => 109
  | .X => 120
  | .A => 97
  | .C => 99
def upS (l : List Sg) : ByteArray := ⟨(l.map Sg.up).toArray⟩
def loS (l : List Sg) : ByteArray := ⟨(l.map Sg.lo).toArray⟩
theorem eq_t {a : ByteArray} {l : List UInt8} (h : (a.toList == l) = true) : a.toList = l := by simpa using h
theorem shape_pair : shape [112, 97, 105, 114] = [.V, .V] := rfl
theorem shape_thunk : shape [116, 104, 117, 110, 107] = [.M] := rfl
theorem shape_fst : shape [102, 115, 116] = [.M] := rfl
theorem shape_snd : shape [115, 110, 100] = [.M] := rfl
theorem shape_return : shape [114, 101, 116, 117, 114, 110] = [.V] := rfl
theorem shape_force : shape [102, 111, 114, 99, 101] = [.V] := rfl
theorem shape_to : shape [116, 111] = [.M, .X, .M] := rfl
theorem shape_lam : shape [108, 97, 109] = [.X, .A, .M] := rfl
theorem shape_app : shape [97, 112, 112] = [.M, .V] := rfl
theorem shape_if : shape [105, 102] = [.V, .M, .M] := rfl
theorem shape_split : shape [115, 112, 108, 105, 116] = [.V, .X, .X, .M] := rfl
theorem shape_both : shape [98, 111, 116, 104] = [.M, .M] := rfl
theorem shape_try : shape [116, 114, 121] = [.M, .M] := rfl
theorem shape_get : shape [103, 101, 116] = [.X, .M] := rfl
theorem shape_put : shape [112, 117, 116] = [.V, .M] := rfl
theorem shape_fail : shape [102, 97, 105, 108] = [.C] := rfl
theorem shape_other {h : List UInt8} (h0 : (h == [112, 97, 105, 114]) = false) (h1 : (h == [116, 104, 117, 110, 107]) = false) (h2 : (h == [102, 115, 116]) = false) (h3 : (h == [115, 110, 100]) = false) (h4 : (h == [114, 101, 116, 117, 114, 110]) = false) (h5 : (h == [102, 111, 114, 99, 101]) = false) (h6 : (h == [116, 111]) = false) (h7 : (h == [108, 97, 109]) = false) (h8 : (h == [97, 112, 112]) = false) (h9 : (h == [105, 102]) = false) (h10 : (h == [115, 112, 108, 105, 116]) = false) (h11 : (h == [98, 111, 116, 104]) = false) (h12 : (h == [116, 114, 121]) = false) (h13 : (h == [103, 101, 116]) = false) (h14 : (h == [112, 117, 116]) = false) (h15 : (h == [102, 97, 105, 108]) = false) : shape h = [] := by
  unfold shape
  rw [if_neg (by simp only [beq_eq_false_iff_ne, ne_eq] at *; simp [h0])]
  rw [if_neg (by simp only [beq_eq_false_iff_ne, ne_eq] at *; simp [h1, h2, h3])]
  rw [if_neg (by simp only [beq_eq_false_iff_ne, ne_eq] at *; simp [h4, h5])]
  rw [if_neg (by simp only [beq_eq_false_iff_ne, ne_eq] at *; simp [h6])]
  rw [if_neg (by simp only [beq_eq_false_iff_ne, ne_eq] at *; simp [h7])]
  rw [if_neg (by simp only [beq_eq_false_iff_ne, ne_eq] at *; simp [h8])]
  rw [if_neg (by simp only [beq_eq_false_iff_ne, ne_eq] at *; simp [h9])]
  rw [if_neg (by simp only [beq_eq_false_iff_ne, ne_eq] at *; simp [h10])]
  rw [if_neg (by simp only [beq_eq_false_iff_ne, ne_eq] at *; simp [h11, h12])]
  rw [if_neg (by simp only [beq_eq_false_iff_ne, ne_eq] at *; simp [h13])]
  rw [if_neg (by simp only [beq_eq_false_iff_ne, ne_eq] at *; simp [h14])]
  rw [if_neg (by simp only [beq_eq_false_iff_ne, ne_eq] at *; simp [h15])]

set_option maxRecDepth 100000 in
set_option maxHeartbeats 1000000 in
theorem formOf_any (s : ByteArray) (w : World) : Calls Tryz.prog 102 #[.string s] w fun e w' => e = .returned (.string (upS (shape s.toList))) ∧ w = w' := by
  cases e0 : s.toList == [114, 101, 116, 117, 114, 110] with
  | true =>
    have hq := hid (show upS (shape s.toList) = upS (shape [114, 101, 116, 117, 114, 110]) by rw [eq_t e0])
    go_enter Tryz.func102, Tryz.ntmps102
    go_wp2
    go_ret
    exact ⟨ret_str (by rw [hq.out]; rfl), rfl⟩
  | false =>
    cases e1 : s.toList == [102, 111, 114, 99, 101] with
    | true =>
      have hq := hid (show upS (shape s.toList) = upS (shape [102, 111, 114, 99, 101]) by rw [eq_t e1])
      go_enter Tryz.func102, Tryz.ntmps102
      go_wp2
      go_ret
      exact ⟨ret_str (by rw [hq.out]; rfl), rfl⟩
    | false =>
      cases e2 : s.toList == [116, 104, 117, 110, 107] with
      | true =>
        have hq := hid (show upS (shape s.toList) = upS (shape [116, 104, 117, 110, 107]) by rw [eq_t e2])
        go_enter Tryz.func102, Tryz.ntmps102
        go_wp2
        go_ret
        exact ⟨ret_str (by rw [hq.out]; rfl), rfl⟩
      | false =>
        cases e3 : s.toList == [102, 115, 116] with
        | true =>
          have hq := hid (show upS (shape s.toList) = upS (shape [102, 115, 116]) by rw [eq_t e3])
          go_enter Tryz.func102, Tryz.ntmps102
          go_wp2
          go_ret
          exact ⟨ret_str (by rw [hq.out]; rfl), rfl⟩
        | false =>
          cases e4 : s.toList == [115, 110, 100] with
          | true =>
            have hq := hid (show upS (shape s.toList) = upS (shape [115, 110, 100]) by rw [eq_t e4])
            go_enter Tryz.func102, Tryz.ntmps102
            go_wp2
            go_ret
            exact ⟨ret_str (by rw [hq.out]; rfl), rfl⟩
          | false =>
            cases e5 : s.toList == [112, 97, 105, 114] with
            | true =>
              have hq := hid (show upS (shape s.toList) = upS (shape [112, 97, 105, 114]) by rw [eq_t e5])
              go_enter Tryz.func102, Tryz.ntmps102
              go_wp2
              go_ret
              exact ⟨ret_str (by rw [hq.out]; rfl), rfl⟩
            | false =>
              cases e6 : s.toList == [98, 111, 116, 104] with
              | true =>
                have hq := hid (show upS (shape s.toList) = upS (shape [98, 111, 116, 104]) by rw [eq_t e6])
                go_enter Tryz.func102, Tryz.ntmps102
                go_wp2
                go_ret
                exact ⟨ret_str (by rw [hq.out]; rfl), rfl⟩
              | false =>
                cases e7 : s.toList == [116, 114, 121] with
                | true =>
                  have hq := hid (show upS (shape s.toList) = upS (shape [116, 114, 121]) by rw [eq_t e7])
                  go_enter Tryz.func102, Tryz.ntmps102
                  go_wp2
                  go_ret
                  exact ⟨ret_str (by rw [hq.out]; rfl), rfl⟩
                | false =>
                  cases e8 : s.toList == [97, 112, 112] with
                  | true =>
                    have hq := hid (show upS (shape s.toList) = upS (shape [97, 112, 112]) by rw [eq_t e8])
                    go_enter Tryz.func102, Tryz.ntmps102
                    go_wp2
                    go_ret
                    exact ⟨ret_str (by rw [hq.out]; rfl), rfl⟩
                  | false =>
                    cases e9 : s.toList == [112, 117, 116] with
                    | true =>
                      have hq := hid (show upS (shape s.toList) = upS (shape [112, 117, 116]) by rw [eq_t e9])
                      go_enter Tryz.func102, Tryz.ntmps102
                      go_wp2
                      go_ret
                      exact ⟨ret_str (by rw [hq.out]; rfl), rfl⟩
                    | false =>
                      cases e10 : s.toList == [105, 102] with
                      | true =>
                        have hq := hid (show upS (shape s.toList) = upS (shape [105, 102]) by rw [eq_t e10])
                        go_enter Tryz.func102, Tryz.ntmps102
                        go_wp2
                        go_ret
                        exact ⟨ret_str (by rw [hq.out]; rfl), rfl⟩
                      | false =>
                        cases e11 : s.toList == [103, 101, 116] with
                        | true =>
                          have hq := hid (show upS (shape s.toList) = upS (shape [103, 101, 116]) by rw [eq_t e11])
                          go_enter Tryz.func102, Tryz.ntmps102
                          go_wp2
                          go_ret
                          exact ⟨ret_str (by rw [hq.out]; rfl), rfl⟩
                        | false =>
                          cases e12 : s.toList == [116, 111] with
                          | true =>
                            have hq := hid (show upS (shape s.toList) = upS (shape [116, 111]) by rw [eq_t e12])
                            go_enter Tryz.func102, Tryz.ntmps102
                            go_wp2
                            go_ret
                            exact ⟨ret_str (by rw [hq.out]; rfl), rfl⟩
                          | false =>
                            cases e13 : s.toList == [115, 112, 108, 105, 116] with
                            | true =>
                              have hq := hid (show upS (shape s.toList) = upS (shape [115, 112, 108, 105, 116]) by rw [eq_t e13])
                              go_enter Tryz.func102, Tryz.ntmps102
                              go_wp2
                              go_ret
                              exact ⟨ret_str (by rw [hq.out]; rfl), rfl⟩
                            | false =>
                              cases e14 : s.toList == [108, 97, 109] with
                              | true =>
                                have hq := hid (show upS (shape s.toList) = upS (shape [108, 97, 109]) by rw [eq_t e14])
                                go_enter Tryz.func102, Tryz.ntmps102
                                go_wp2
                                go_ret
                                exact ⟨ret_str (by rw [hq.out]; rfl), rfl⟩
                              | false =>
                                cases e15 : s.toList == [102, 97, 105, 108] with
                                | true =>
                                  have hq := hid (show upS (shape s.toList) = upS (shape [102, 97, 105, 108]) by rw [eq_t e15])
                                  go_enter Tryz.func102, Tryz.ntmps102
                                  go_wp2
                                  go_ret
                                  exact ⟨ret_str (by rw [hq.out]; rfl), rfl⟩
                                | false =>
                                  have hq := hid (shape_other e5 e2 e3 e4 e0 e1 e12 e14 e8 e10 e13 e6 e7 e11 e9 e15)
                                  go_enter Tryz.func102, Tryz.ntmps102
                                  go_wp2
                                  go_ret
                                  exact ⟨ret_str (by rw [hq.out]; rfl), rfl⟩
end Go.Proofs.YtocegmgdbmbkkaaGreatDoor

namespace Go.Proofs.YtocegmgdbmbkkaaGreatDoor
open Go.RowKit

theorem toList_get (s : ByteArray) (i : Nat) (h : i < s.size) : s.toList[i]? = some s[i] := by
  rw [Go.ByteArray.toList_eq, Array.getElem?_toList]
  exact Array.getElem?_eq_getElem (by simpa using h)
theorem toList_len (s : ByteArray) : s.toList.length = s.size := by rw [Go.ByteArray.toList_eq]; simp
/-- A digit. -/
def digB (d : UInt8) : Bool := decide (48 ≤ d.toNat ∧ d.toNat ≤ 57)
theorem nameB_cons (s : ByteArray) (h0 : 0 < s.size) : nameB s.toList = (decide (97 ≤ s[0].toNat ∧ s[0].toNat ≤ 122 ∧ s.size ≤ 4) && (s.toList.drop 1).all digB) := by
  have h1 := toList_get s 0 h0
  have h2 := toList_len s
  cases hl : s.toList with
  | nil => rw [hl] at h2; simp at h2; omega
  | cons c l =>
    rw [hl] at h1 h2
    simp at h1 h2
    have h3 : (l.length ≤ 3) ↔ s.size ≤ 4 := by omega
    simp only [nameB, List.drop_succ_cons, List.drop_zero, h3, h1]; rfl
theorem nameB_nil (s : ByteArray) (h0 : s.size = 0) : nameB s.toList = false := by
  have h2 := toList_len s
  cases hl : s.toList with
  | nil => rfl
  | cons c l => rw [hl] at h2; simp at h2; omega
theorem all_drop (s : ByteArray) (i : Nat) (h : i < s.size) : (s.toList.drop i).all digB = (digB s[i] && (s.toList.drop (i + 1)).all digB) := by
  have hl : i < s.toList.length := by rw [toList_len]; exact h
  rw [List.drop_eq_getElem_cons hl, List.all_cons]
  have := toList_get s i h
  rw [List.getElem?_eq_getElem hl] at this
  rw [Option.some.inj this]
theorem all_end (s : ByteArray) : (s.toList.drop s.size).all digB = true := by
  rw [List.drop_of_length_le (by rw [toList_len]; exact Nat.le_refl _)]; rfl

def digits : List UInt8 := [48, 49, 50, 51, 52, 53, 54, 55, 56, 57]
theorem digits_dig (d : UInt8) : digits.contains d = digB d := by
  rw [Bool.eq_iff_iff]
  unfold digits digB
  simp only [List.contains_iff_mem, List.mem_cons, List.mem_nil_iff, or_false, decide_eq_true_eq]
  constructor
  · rintro (h | h | h | h | h | h | h | h | h | h) <;> subst h <;> decide
  · rintro ⟨h1, h2⟩
    have : d = UInt8.ofNat d.toNat := by simp
    obtain ⟨n, hn⟩ : ∃ n, d.toNat = n := ⟨_, rfl⟩
    rw [hn] at h1 h2 this
    have : n = 48 ∨ n = 49 ∨ n = 50 ∨ n = 51 ∨ n = 52 ∨ n = 53 ∨ n = 54 ∨ n = 55 ∨ n = 56 ∨ n = 57 := by omega
    rcases this with h | h | h | h | h | h | h | h | h | h <;> subst h <;> simp_all
theorem dropWhile_empty (p : UInt8 → Bool) : ∀ l : List UInt8, (l.dropWhile p).isEmpty = l.all p
  | [] => rfl
  | c :: l => by
    rw [List.dropWhile_cons, List.all_cons]
    cases h : p c with
    | true => simp only [if_true, Bool.true_and]; exact dropWhile_empty p l
    | false => simp
theorem trim_empty (s : ByteArray) : (⟨(Lib.trimLeftS (s.extract 1 s.size).data.toList digits).toArray⟩ : ByteArray).toList.isEmpty = (s.toList.drop 1).all digB := by
  rw [Go.ByteArray.toList_eq]
  simp only
  rw [Lib.trimLeftS, dropWhile_empty]
  have e : (s.extract 1 s.size).data.toList = s.toList.drop 1 := by
    rw [Go.ByteArray.toList_eq]
    simp only [ByteArray.data_extract, Array.toList_extract, List.extract_eq_take_drop]
    rw [List.take_of_length_le (by simp)]
  rw [e]
  congr 1
  funext d; exact digits_dig d

set_option maxRecDepth 100000 in
set_option maxHeartbeats 1000000 in
theorem isName_any (s : ByteArray) (hs : s.size ≤ 400000000) (w : World) : Calls Tryz.prog 110 #[.string s] w fun e w' => e = .returned (.bool (nameB s.toList)) ∧ Below w.heap.size w w' := by
  have hs' : s.size ≤ 9223372036854775807 := by omega
  by_cases h0 : 0 < s.size
  · have he := isEmpty_not s (by omega)
    have he2 : (s.toList == []) = false := by rw [beq_eq_false_iff_ne]; intro h; rw [h] at he; simp at he
    by_cases h4 : s.size ≤ 4
    · by_cases ha : 97 ≤ s[0].toNat ∧ s[0].toNat ≤ 122
      · have HN := hid (show nameB s.toList = (s.toList.drop 1).all digB by rw [nameB_cons s h0, decide_eq_true ⟨ha.1, ha.2, h4⟩, Bool.true_and])
        obtain ⟨ha1, ha2⟩ := ha
        have HT := hid (fun W => Any.strings_TrimLeft_laid Tryz.lays161 (by kernel_rfl) (s.extract 1 s.size) ⟨#[48, 49, 50, 51, 52, 53, 54, 55, 56, 57]⟩ W (by decide) (ascii_of_all (by decide)))
        have hte := trim_empty s
        obtain ⟨r, hr⟩ : ∃ r : ByteArray, (⟨(Lib.trimLeftS (s.extract 1 s.size).data.toList digits).toArray⟩ : ByteArray) = r := ⟨_, rfl⟩
        rw [show (⟨(Lib.trimLeftS (s.extract 1 s.size).data.toList (⟨#[48, 49, 50, 51, 52, 53, 54, 55, 56, 57]⟩ : ByteArray).data.toList).toArray⟩ : ByteArray) = r from hr] at HT
        rw [hr, ← HN.out] at hte
        cases hB : nameB s.toList with
        | true =>
          rw [hB] at hte
          have HB := hid hB
          clear hr hB
          go_enter Tryz.func110, Tryz.ntmps110
          go_wp2_with (go_at_call 122; refine (HT.out _).mono ?_; rintro e w1 ⟨rfl, hb1⟩)
          go_ret
          exact ⟨rfl, hb1⟩
        | false =>
          rw [hB] at hte
          have HB := hid hB
          clear hr hB
          go_enter Tryz.func110, Tryz.ntmps110
          go_wp2_with (go_at_call 122; refine (HT.out _).mono ?_; rintro e w1 ⟨rfl, hb1⟩)
          go_ret
          exact ⟨rfl, hb1⟩
      · have HN := hid (show nameB s.toList = false by rw [nameB_cons s h0, decide_eq_false (fun h => ha ⟨h.1, h.2.1⟩), Bool.false_and])
        by_cases ha1 : s[0].toNat < 97
        · clear ha
          go_enter Tryz.func110, Tryz.ntmps110
          go_wp2_with fail
          go_ret
          exact ⟨ret_bool HN.out.symm, Below.refl _ _⟩
        · have ha2 : 122 < s[0].toNat := by omega
          have ha3 : 97 ≤ s[0].toNat := by omega
          clear ha ha1
          go_enter Tryz.func110, Tryz.ntmps110
          go_wp2_with fail
          go_ret
          exact ⟨ret_bool HN.out.symm, Below.refl _ _⟩
    · have HN := hid (show nameB s.toList = false by rw [nameB_cons s h0, decide_eq_false (fun h => h4 h.2.2), Bool.false_and])
      go_enter Tryz.func110, Tryz.ntmps110
      go_wp2_with fail
      go_ret
      exact ⟨ret_bool HN.out.symm, Below.refl _ _⟩
  · have HN := hid (nameB_nil s (by omega))
    have he := isEmpty_of s (by omega)
    go_enter Tryz.func110, Tryz.ntmps110
    go_wp2_with fail
    go_ret
    exact ⟨ret_bool HN.out.symm, Below.refl _ _⟩
end Go.Proofs.YtocegmgdbmbkkaaGreatDoor

namespace Go.Proofs.YtocegmgdbmbkkaaGreatDoor
open Go.RowKit

set_option maxRecDepth 100000 in
set_option maxHeartbeats 1000000 in
theorem l2Shape_any (s : ByteArray) (w : World) : Calls Tryz.prog 83 #[.string s] w fun e w' => e = .returned (.string (loS (shape s.toList))) ∧ w = w' := by
  cases e0 : s.toList == [112, 97, 105, 114] with
  | true =>
    have hq := hid (show loS (shape s.toList) = loS (shape [112, 97, 105, 114]) by rw [eq_t e0])
    go_enter Tryz.func83, Tryz.ntmps83
    go_wp2
    go_ret
    exact ⟨ret_str (by rw [hq.out]; rfl), rfl⟩
  | false =>
    cases e1 : s.toList == [116, 104, 117, 110, 107] with
    | true =>
      have hq := hid (show loS (shape s.toList) = loS (shape [116, 104, 117, 110, 107]) by rw [eq_t e1])
      go_enter Tryz.func83, Tryz.ntmps83
      go_wp2
      go_ret
      exact ⟨ret_str (by rw [hq.out]; rfl), rfl⟩
    | false =>
      cases e2 : s.toList == [102, 115, 116] with
      | true =>
        have hq := hid (show loS (shape s.toList) = loS (shape [102, 115, 116]) by rw [eq_t e2])
        go_enter Tryz.func83, Tryz.ntmps83
        go_wp2
        go_ret
        exact ⟨ret_str (by rw [hq.out]; rfl), rfl⟩
      | false =>
        cases e3 : s.toList == [115, 110, 100] with
        | true =>
          have hq := hid (show loS (shape s.toList) = loS (shape [115, 110, 100]) by rw [eq_t e3])
          go_enter Tryz.func83, Tryz.ntmps83
          go_wp2
          go_ret
          exact ⟨ret_str (by rw [hq.out]; rfl), rfl⟩
        | false =>
          cases e4 : s.toList == [114, 101, 116, 117, 114, 110] with
          | true =>
            have hq := hid (show loS (shape s.toList) = loS (shape [114, 101, 116, 117, 114, 110]) by rw [eq_t e4])
            go_enter Tryz.func83, Tryz.ntmps83
            go_wp2
            go_ret
            exact ⟨ret_str (by rw [hq.out]; rfl), rfl⟩
          | false =>
            cases e5 : s.toList == [102, 111, 114, 99, 101] with
            | true =>
              have hq := hid (show loS (shape s.toList) = loS (shape [102, 111, 114, 99, 101]) by rw [eq_t e5])
              go_enter Tryz.func83, Tryz.ntmps83
              go_wp2
              go_ret
              exact ⟨ret_str (by rw [hq.out]; rfl), rfl⟩
            | false =>
              cases e6 : s.toList == [116, 111] with
              | true =>
                have hq := hid (show loS (shape s.toList) = loS (shape [116, 111]) by rw [eq_t e6])
                go_enter Tryz.func83, Tryz.ntmps83
                go_wp2
                go_ret
                exact ⟨ret_str (by rw [hq.out]; rfl), rfl⟩
              | false =>
                cases e7 : s.toList == [108, 97, 109] with
                | true =>
                  have hq := hid (show loS (shape s.toList) = loS (shape [108, 97, 109]) by rw [eq_t e7])
                  go_enter Tryz.func83, Tryz.ntmps83
                  go_wp2
                  go_ret
                  exact ⟨ret_str (by rw [hq.out]; rfl), rfl⟩
                | false =>
                  cases e8 : s.toList == [97, 112, 112] with
                  | true =>
                    have hq := hid (show loS (shape s.toList) = loS (shape [97, 112, 112]) by rw [eq_t e8])
                    go_enter Tryz.func83, Tryz.ntmps83
                    go_wp2
                    go_ret
                    exact ⟨ret_str (by rw [hq.out]; rfl), rfl⟩
                  | false =>
                    cases e9 : s.toList == [105, 102] with
                    | true =>
                      have hq := hid (show loS (shape s.toList) = loS (shape [105, 102]) by rw [eq_t e9])
                      go_enter Tryz.func83, Tryz.ntmps83
                      go_wp2
                      go_ret
                      exact ⟨ret_str (by rw [hq.out]; rfl), rfl⟩
                    | false =>
                      cases e10 : s.toList == [115, 112, 108, 105, 116] with
                      | true =>
                        have hq := hid (show loS (shape s.toList) = loS (shape [115, 112, 108, 105, 116]) by rw [eq_t e10])
                        go_enter Tryz.func83, Tryz.ntmps83
                        go_wp2
                        go_ret
                        exact ⟨ret_str (by rw [hq.out]; rfl), rfl⟩
                      | false =>
                        cases e11 : s.toList == [98, 111, 116, 104] with
                        | true =>
                          have hq := hid (show loS (shape s.toList) = loS (shape [98, 111, 116, 104]) by rw [eq_t e11])
                          go_enter Tryz.func83, Tryz.ntmps83
                          go_wp2
                          go_ret
                          exact ⟨ret_str (by rw [hq.out]; rfl), rfl⟩
                        | false =>
                          cases e12 : s.toList == [116, 114, 121] with
                          | true =>
                            have hq := hid (show loS (shape s.toList) = loS (shape [116, 114, 121]) by rw [eq_t e12])
                            go_enter Tryz.func83, Tryz.ntmps83
                            go_wp2
                            go_ret
                            exact ⟨ret_str (by rw [hq.out]; rfl), rfl⟩
                          | false =>
                            cases e13 : s.toList == [103, 101, 116] with
                            | true =>
                              have hq := hid (show loS (shape s.toList) = loS (shape [103, 101, 116]) by rw [eq_t e13])
                              go_enter Tryz.func83, Tryz.ntmps83
                              go_wp2
                              go_ret
                              exact ⟨ret_str (by rw [hq.out]; rfl), rfl⟩
                            | false =>
                              cases e14 : s.toList == [112, 117, 116] with
                              | true =>
                                have hq := hid (show loS (shape s.toList) = loS (shape [112, 117, 116]) by rw [eq_t e14])
                                go_enter Tryz.func83, Tryz.ntmps83
                                go_wp2
                                go_ret
                                exact ⟨ret_str (by rw [hq.out]; rfl), rfl⟩
                              | false =>
                                cases e15 : s.toList == [102, 97, 105, 108] with
                                | true =>
                                  have hq := hid (show loS (shape s.toList) = loS (shape [102, 97, 105, 108]) by rw [eq_t e15])
                                  go_enter Tryz.func83, Tryz.ntmps83
                                  go_wp2
                                  go_ret
                                  exact ⟨ret_str (by rw [hq.out]; rfl), rfl⟩
                                | false =>
                                  have hq := hid (shape_other e0 e1 e2 e3 e4 e5 e6 e7 e8 e9 e10 e11 e12 e13 e14 e15)
                                  go_enter Tryz.func83, Tryz.ntmps83
                                  go_wp2
                                  go_ret
                                  exact ⟨ret_str (by rw [hq.out]; rfl), rfl⟩
end Go.Proofs.YtocegmgdbmbkkaaGreatDoor

namespace Go.Proofs.YtocegmgdbmbkkaaGreatDoor
open Go.RowKit

theorem l6In_any (n lo hi : Int) (w : World) : Calls Tryz.prog 13 #[.int .i64 n, .int .i64 lo, .int .i64 hi] w fun e w' => e = .returned (.bool (decide (lo ≤ n ∧ n ≤ hi))) ∧ w = w' := by
  by_cases h0 : lo ≤ n
  · by_cases h1 : n ≤ hi
    · have e : decide (lo ≤ n ∧ n ≤ hi) = true := decide_eq_true ⟨h0, h1⟩
      rw [e]
      go_enter Tryz.func13, Tryz.ntmps13
      go_wp2
      go_ret
      exact ⟨rfl, rfl⟩
    · have e : decide (lo ≤ n ∧ n ≤ hi) = false := decide_eq_false (fun h => h1 h.2)
      rw [e]
      go_enter Tryz.func13, Tryz.ntmps13
      go_wp2
      go_ret
      exact ⟨rfl, rfl⟩
  · have e : decide (lo ≤ n ∧ n ≤ hi) = false := decide_eq_false (fun h => h0 h.1)
    rw [e]
    go_enter Tryz.func13, Tryz.ntmps13
    go_wp2
    go_ret
    exact ⟨rfl, rfl⟩
set_option maxRecDepth 100000 in
set_option maxHeartbeats 1000000 in
theorem l2Name_any (s : ByteArray) (hs : s.size ≤ 400000000) (w : World) : Calls Tryz.prog 82 #[.string s] w fun e w' => e = .returned (.bool (nameB s.toList)) ∧ w = w' := by
  have hs' : s.size ≤ 9223372036854775807 := by omega
  by_cases h0 : 0 < s.size
  · by_cases h4 : s.size ≤ 4
    · have HI := hid (fun W => by have := l6In_any (s.size : Int) 1 4 W; rw [decide_eq_true (by omega)] at this; exact this)
      by_cases ha : 97 ≤ s[0].toNat ∧ s[0].toNat ≤ 122
      · have HN := hid (show nameB s.toList = (s.toList.drop 1).all digB by rw [nameB_cons s h0, decide_eq_true ⟨ha.1, ha.2, h4⟩, Bool.true_and])
        obtain ⟨ha1, ha2⟩ := ha
        go_enter Tryz.func82, Tryz.ntmps82
        go_wp2_with (go_at_call 13; refine (HI.out _).mono ?_; rintro e w1 ⟨rfl, rfl⟩)
        go_loop [3] (fun v => ∃ i : Nat, 1 ≤ i ∧ i ≤ s.size ∧ v = .int .i64 (i : Int) ∧ Hid (nameB s.toList = (s.toList.drop i).all digB)) (fun v => s.size - (intOf v).toNat)
        case atStart => exact ⟨1, by omega, by omega, rfl, HN⟩
        case round =>
          obtain ⟨i, hi1, hi2, rfl, hn⟩ := hrel
          by_cases hlt : i < s.size
          · have HA := hid (all_drop s i hlt)
            by_cases hd : 48 ≤ s[i].toNat ∧ s[i].toNat ≤ 57
            · have HD := hid (show digB s[i] = true from decide_eq_true hd)
              obtain ⟨hd1, hd2⟩ := hd
              go_wp2_with fail
              go_round
              case rel => exact ⟨i + 1, by omega, by omega, by go_num, by show _ = _; rw [hn.out, HA.out, HD.out, Bool.true_and]⟩
              case measure => simp [intOf]; omega
            · have HD := hid (show digB s[i] = false from decide_eq_false hd)
              have HR := hid (show nameB s.toList = false by rw [hn.out, HA.out, HD.out, Bool.false_and])
              by_cases hd1 : s[i].toNat < 48
              · clear hd
                go_wp2_with fail
                go_ret
                exact ⟨ret_bool HR.out.symm, rfl⟩
              · have hd2 : 57 < s[i].toNat := by omega
                have hd3 : 48 ≤ s[i].toNat := by omega
                clear hd hd1
                go_wp2_with fail
                go_ret
                exact ⟨ret_bool HR.out.symm, rfl⟩
          · have hie : i = s.size := by omega
            have HR := hid (show nameB s.toList = true by rw [hn.out, hie, all_end])
            clear hie
            go_wp2_with fail
            go_ret
            exact ⟨ret_bool HR.out.symm, rfl⟩
      · have HN := hid (show nameB s.toList = false by rw [nameB_cons s h0, decide_eq_false (fun h => ha ⟨h.1, h.2.1⟩), Bool.false_and])
        by_cases ha1 : s[0].toNat < 97
        · clear ha
          go_enter Tryz.func82, Tryz.ntmps82
          go_wp2_with (go_at_call 13; refine (HI.out _).mono ?_; rintro e w1 ⟨rfl, rfl⟩)
          go_ret
          exact ⟨ret_bool HN.out.symm, rfl⟩
        · have ha2 : 122 < s[0].toNat := by omega
          have ha3 : 97 ≤ s[0].toNat := by omega
          clear ha ha1
          go_enter Tryz.func82, Tryz.ntmps82
          go_wp2_with (go_at_call 13; refine (HI.out _).mono ?_; rintro e w1 ⟨rfl, rfl⟩)
          go_ret
          exact ⟨ret_bool HN.out.symm, rfl⟩
    · have HN := hid (show nameB s.toList = false by rw [nameB_cons s h0, decide_eq_false (fun h => h4 h.2.2), Bool.false_and])
      have HI := hid (fun W => by have := l6In_any (s.size : Int) 1 4 W; rw [decide_eq_false (by omega)] at this; exact this)
      go_enter Tryz.func82, Tryz.ntmps82
      go_wp2_with (go_at_call 13; refine (HI.out _).mono ?_; rintro e w1 ⟨rfl, rfl⟩)
      go_ret
      exact ⟨ret_bool HN.out.symm, rfl⟩
  · have HN := hid (nameB_nil s (by omega))
    have HI := hid (fun W => by have := l6In_any (s.size : Int) 1 4 W; rw [decide_eq_false (by omega)] at this; exact this)
    go_enter Tryz.func82, Tryz.ntmps82
    go_wp2_with (go_at_call 13; refine (HI.out _).mono ?_; rintro e w1 ⟨rfl, rfl⟩)
    go_ret
    exact ⟨ret_bool HN.out.symm, rfl⟩

end Go.Proofs.YtocegmgdbmbkkaaGreatDoor
