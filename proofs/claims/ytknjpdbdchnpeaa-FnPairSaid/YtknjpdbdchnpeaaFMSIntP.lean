/- Merged: IntP. -/
import Derived.OwnWalk
import Derived.Test.YtknjpdbdchnpeaaFM18
namespace Go.Proofs.Ytknjpdbdchnpeaa
open Go.RowKit

/-- Numbers as values. -/
def ints (zs : List Int) : List Value := zs.map fun z => Value.int .i64 z
theorem ints_length (zs : List Int) : (ints zs).length = zs.length := by simp [ints]
theorem ints_get {zs : List Int} {i : Nat} {z : Int} (h : zs[i]? = some z) : (ints zs)[i]? = some (.int .i64 z) := by simp [ints, h]
theorem copy_set (l xs : List Value) (i : Nat) (v : Value) (h : l[i]? = some v) (hl : i < xs.length) : (l.take i ++ xs.drop i).set i v = l.take (i + 1) ++ xs.drop (i + 1) := by
  have hi : i < l.length := (List.getElem?_eq_some_iff.1 h).1
  have ht : (l.take i).length = i := List.length_take_of_le (by omega)
  rw [List.set_append_right _ _ (by omega), ht, Nat.sub_self, List.drop_eq_getElem_cons hl, List.set_cons_zero, List.take_add_one, h]
  simp

/-- A number out of its digits, the first one the least. -/
def hor (n : Nat) : List Nat → Nat
  | [] => 0
  | c :: l => c + n * hor n l
theorem hor_append (n : Nat) : ∀ a b : List Nat, hor n (a ++ b) = hor n a + n ^ a.length * hor n b
  | [], b => by simp [hor]
  | c :: a, b => by
    rw [List.cons_append, hor, hor, hor_append n a b, List.length_cons, Nat.pow_succ, Nat.mul_add, Nat.mul_comm (n ^ a.length) n, Nat.mul_assoc, Nat.add_assoc]
theorem hor_lt (n : Nat) (hn : 1 ≤ n) : ∀ l : List Nat, (∀ c ∈ l, c < n) → hor n l < n ^ l.length
  | [], _ => by simp [hor]
  | c :: l, h => by
    have h1 := hor_lt n hn l (fun d hd => h d (List.mem_cons_of_mem _ hd))
    have h2 := h c (List.mem_cons_self ..)
    rw [hor, List.length_cons, Nat.pow_succ, Nat.mul_comm (n ^ l.length) n]
    have h3 : n * (hor n l + 1) ≤ n * n ^ l.length := Nat.mul_le_mul_left n h1
    rw [Nat.mul_add] at h3
    omega
theorem pow_le (n a b : Nat) (hn : 1 ≤ n) (h : a ≤ b) : n ^ a ≤ n ^ b := Nat.pow_le_pow_right hn h
end Go.Proofs.Ytknjpdbdchnpeaa
