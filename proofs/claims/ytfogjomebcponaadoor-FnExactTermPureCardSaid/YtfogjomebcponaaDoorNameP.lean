/- Names, plainly. -/
import Derived.Test.YtfogjomebcponaaDoorPure
namespace Go.Proofs.YtfogjomebcponaaDoor
open Go.RowKit

/-- A name: a small letter, and then at most three digits. -/
def nameB : List UInt8 → Bool
  | [] => false
  | c :: l => decide (97 ≤ c.toNat ∧ c.toNat ≤ 122 ∧ l.length ≤ 3) && l.all fun d => decide (48 ≤ d.toNat ∧ d.toNat ≤ 57)
theorem nameB_ne {s : List UInt8} (h : nameB s = true) : s ≠ [] := by intro e; subst e; simp [nameB] at h
/-- Is a text among names? -/
def hasB (l : List ByteArray) (s : List UInt8) : Bool := (l.map (·.toList)).contains s
theorem eq_t {a : ByteArray} {l : List UInt8} (h : (a.toList == l) = true) : a.toList = l := by simpa using h
theorem toList_get (s : ByteArray) (i : Nat) (h : i < s.size) : s.toList[i]? = some s[i] := by
  rw [Go.ByteArray.toList_eq, Array.getElem?_toList]
  exact Array.getElem?_eq_getElem (by simpa using h)
theorem toList_len (s : ByteArray) : s.toList.length = s.size := by rw [Go.ByteArray.toList_eq]; simp
theorem hasB_cons (x : ByteArray) (l : List ByteArray) (s : List UInt8) : hasB (x :: l) s = (x.toList == s || hasB l s) := by
  unfold hasB
  rw [List.map_cons, List.contains_cons]
  congr 1
  rw [Bool.eq_iff_iff, beq_iff_eq, beq_iff_eq]; exact ⟨Eq.symm, Eq.symm⟩
/-- Each one once, in the order in which it comes first. -/
def dedB (acc : List ByteArray) : List ByteArray → List ByteArray
  | [] => acc
  | x :: l => if hasB acc x.toList = true then dedB acc l else dedB (acc ++ [x]) l
theorem dedB_append : ∀ (a b acc : List ByteArray), dedB acc (a ++ b) = dedB (dedB acc a) b
  | [], b, acc => rfl
  | x :: a, b, acc => by
    rw [List.cons_append, dedB, dedB]
    split <;> exact dedB_append a b _
theorem dedB_le : ∀ (F L : List ByteArray), (dedB L F).length ≤ L.length + F.length
  | [], L => by simp [dedB]
  | x :: F, L => by
    rw [dedB]
    split
    · have := dedB_le F L; simp; omega
    · have := dedB_le F (L ++ [x]); simp at this ⊢; omega
end Go.Proofs.YtfogjomebcponaaDoor
