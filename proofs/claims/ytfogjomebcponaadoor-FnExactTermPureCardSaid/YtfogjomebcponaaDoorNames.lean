/- Names: isName and depthOf of the program, l2Name and l6In of the model. -/
import Derived.Test.YtfogjomebcponaaDoorNameP
import Derived.Test.YtfogjomebcponaaDoorShelf
import Derived.Shelf.Strings.SlTrimAscii
import Derived.Deep.QuietTactic
import Derived.BigQuiet
namespace Go.Proofs.YtfogjomebcponaaDoor
open Go.RowKit

/-- A digit. -/
def digB (d : UInt8) : Bool := decide (48 ≤ d.toNat ∧ d.toNat ≤ 57)
theorem nameB_cons (s : ByteArray) (h0 : 0 < s.size) : nameB s.toList = (decide (97 ≤ s[0].toNat ∧ s[0].toNat ≤ 122 ∧ s.size ≤ 4) && (s.toList.drop 1).all digB) := by
  have h1 := toList_get s 0 h0
  have h2 := toList_len s
  cases hl : s.toList with
  | nil => rw [hl] at h2; simp at h2; omega
  | cons c l =>
    rw [hl] at h1 h2
    simp at h1 h2
    have h3 : (l.length ≤ 3) ↔ s.size ≤ 4 := by omega
    simp only [nameB, List.drop_succ_cons, List.drop_zero, h3, h1]; rfl
theorem nameB_nil (s : ByteArray) (h0 : s.size = 0) : nameB s.toList = false := by
  have h2 := toList_len s
  cases hl : s.toList with
  | nil => rfl
  | cons c l => rw [hl] at h2; simp at h2; omega
theorem all_drop (s : ByteArray) (i : Nat) (h : i < s.size) : (s.toList.drop i).all digB = (digB s[i] && (s.toList.drop (i + 1)).all digB) := by
  have hl : i < s.toList.length := by rw [toList_len]; exact h
  rw [List.drop_eq_getElem_cons hl, List.all_cons]
  have := toList_get s i h
  rw [List.getElem?_eq_getElem hl] at this
  rw [Option.some.inj this]
theorem all_end (s : ByteArray) : (s.toList.drop s.size).all digB = true := by
  rw [List.drop_of_length_le (by rw [toList_len]; exact Nat.le_refl _)]; rfl

def digits : List UInt8 := [48, 49, 50, 51, 52, 53, 54, 55, 56, 57]
theorem digits_dig (d : UInt8) : digits.contains d = digB d := by
  rw [Bool.eq_iff_iff]
  unfold digits digB
  simp only [List.contains_iff_mem, List.mem_cons, List.mem_nil_iff, or_false, decide_eq_true_eq]
  constructor
  · rintro (h | h | h | h | h | h | h | h | h | h) <;> subst h <;> decide
  · rintro ⟨h1, h2⟩
    have : d = UInt8.ofNat d.toNat := by simp
    obtain ⟨n, hn⟩ : ∃ n, d.toNat = n := ⟨_, rfl⟩
    rw [hn] at h1 h2 this
    have : n = 48 ∨ n = 49 ∨ n = 50 ∨ n = 51 ∨ n = 52 ∨ n = 53 ∨ n = 54 ∨ n = 55 ∨ n = 56 ∨ n = 57 := by omega
    rcases this with h | h | h | h | h | h | h | h | h | h <;> subst h <;> simp_all
theorem dropWhile_empty (p : UInt8 → Bool) : ∀ l : List UInt8, (l.dropWhile p).isEmpty = l.all p
  | [] => rfl
  | c :: l => by
    rw [List.dropWhile_cons, List.all_cons]
    cases h : p c with
    | true => simp only [if_true, Bool.true_and]; exact dropWhile_empty p l
    | false => simp
theorem trim_empty (s : ByteArray) : (⟨(Lib.trimLeftS (s.extract 1 s.size).data.toList digits).toArray⟩ : ByteArray).toList.isEmpty = (s.toList.drop 1).all digB := by
  rw [Go.ByteArray.toList_eq]
  simp only
  rw [Lib.trimLeftS, dropWhile_empty]
  have e : (s.extract 1 s.size).data.toList = s.toList.drop 1 := by
    rw [Go.ByteArray.toList_eq]
    simp only [ByteArray.data_extract, Array.toList_extract, List.extract_eq_take_drop]
    rw [List.take_of_length_le (by simp)]
  rw [e]
  congr 1
  funext d; exact digits_dig d

set_option maxRecDepth 100000 in
set_option maxHeartbeats 1000000 in
theorem isName_any (s : ByteArray) (hs : s.size ≤ 400000000) (w : World) : Calls Tryd.prog 60 #[.string s] w fun e w' => e = .returned (.bool (nameB s.toList)) ∧ Below w.heap.size w w' := by
  have hs' : s.size ≤ 9223372036854775807 := by omega
  by_cases h0 : 0 < s.size
  · have he := isEmpty_not s (by omega)
    have he2 : (s.toList == []) = false := by rw [beq_eq_false_iff_ne]; intro h; rw [h] at he; simp at he
    by_cases h4 : s.size ≤ 4
    · by_cases ha : 97 ≤ s[0].toNat ∧ s[0].toNat ≤ 122
      · have HN := hid (show nameB s.toList = (s.toList.drop 1).all digB by rw [nameB_cons s h0, decide_eq_true ⟨ha.1, ha.2, h4⟩, Bool.true_and])
        obtain ⟨ha1, ha2⟩ := ha
        have HT := hid (fun W => Any.strings_TrimLeft_laid Tryd.lays161 (by kernel_rfl) (s.extract 1 s.size) ⟨#[48, 49, 50, 51, 52, 53, 54, 55, 56, 57]⟩ W (by decide) (ascii_of_all (by decide)))
        have hte := trim_empty s
        obtain ⟨r, hr⟩ : ∃ r : ByteArray, (⟨(Lib.trimLeftS (s.extract 1 s.size).data.toList digits).toArray⟩ : ByteArray) = r := ⟨_, rfl⟩
        rw [show (⟨(Lib.trimLeftS (s.extract 1 s.size).data.toList (⟨#[48, 49, 50, 51, 52, 53, 54, 55, 56, 57]⟩ : ByteArray).data.toList).toArray⟩ : ByteArray) = r from hr] at HT
        rw [hr, ← HN.out] at hte
        cases hB : nameB s.toList with
        | true =>
          rw [hB] at hte
          have HB := hid hB
          clear hr hB
          go_enter Tryd.func60, Tryd.ntmps60
          go_wp2_with (go_at_call 70; refine (HT.out _).mono ?_; rintro e w1 ⟨rfl, hb1⟩)
          go_ret
          exact ⟨rfl, hb1⟩
        | false =>
          rw [hB] at hte
          have HB := hid hB
          clear hr hB
          go_enter Tryd.func60, Tryd.ntmps60
          go_wp2_with (go_at_call 70; refine (HT.out _).mono ?_; rintro e w1 ⟨rfl, hb1⟩)
          go_ret
          exact ⟨rfl, hb1⟩
      · have HN := hid (show nameB s.toList = false by rw [nameB_cons s h0, decide_eq_false (fun h => ha ⟨h.1, h.2.1⟩), Bool.false_and])
        by_cases ha1 : s[0].toNat < 97
        · clear ha
          go_enter Tryd.func60, Tryd.ntmps60
          go_wp2_with fail
          go_ret
          exact ⟨ret_bool HN.out.symm, Below.refl _ _⟩
        · have ha2 : 122 < s[0].toNat := by omega
          have ha3 : 97 ≤ s[0].toNat := by omega
          clear ha ha1
          go_enter Tryd.func60, Tryd.ntmps60
          go_wp2_with fail
          go_ret
          exact ⟨ret_bool HN.out.symm, Below.refl _ _⟩
    · have HN := hid (show nameB s.toList = false by rw [nameB_cons s h0, decide_eq_false (fun h => h4 h.2.2), Bool.false_and])
      go_enter Tryd.func60, Tryd.ntmps60
      go_wp2_with fail
      go_ret
      exact ⟨ret_bool HN.out.symm, Below.refl _ _⟩
  · have HN := hid (nameB_nil s (by omega))
    have he := isEmpty_of s (by omega)
    go_enter Tryd.func60, Tryd.ntmps60
    go_wp2_with fail
    go_ret
    exact ⟨ret_bool HN.out.symm, Below.refl _ _⟩
end Go.Proofs.YtfogjomebcponaaDoor
