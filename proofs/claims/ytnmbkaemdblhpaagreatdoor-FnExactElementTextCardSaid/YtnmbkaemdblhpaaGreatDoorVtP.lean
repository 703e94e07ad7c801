/- The value of bits and pairs that means an element of a plain value type, purely. -/
import Derived.Test.YtnmbkaemdblhpaaGreatDoorItoaS
import Derived.Test.YtnmbkaemdblhpaaGreatDoorCountA
namespace Go.Proofs.YtnmbkaemdblhpaaGreatDoor
open Go.RowKit

/-- Bits and pairs of them. -/
def Ty.vp : Ty → Bool
  | .bit => true
  | .pair a b => a.vp && b.vp
  | _ => false
/-- The value that means an element. -/
def Ty.vt : Ty → Nat → ByteArray
  | .bit, k => bitS k
  | .pair a b, k => ((({ data := #[40, 112, 97, 105, 114, 32] } : ByteArray) ++ a.vt (k / b.cnt.getD 1)) ++ ({ data := #[32] } : ByteArray)) ++ b.vt (k % b.cnt.getD 1) ++ ({ data := #[41] } : ByteArray)
  | _, _ => ByteArray.empty
theorem vt_pair (a b : Ty) (k y : Nat) (h : b.cnt = some y) : ((({ data := #[40, 112, 97, 105, 114, 32] } : ByteArray) ++ a.vt (k / y)) ++ ({ data := #[32] } : ByteArray)) ++ b.vt (k % y) ++ ({ data := #[41] } : ByteArray) = (Ty.pair a b).vt k := by
  rw [Ty.vt, h]; rfl
theorem write_len_pair (a b : Ty) : (Ty.pair a b).write.length = a.write.length + b.write.length + 5 := by
  simp [Ty.write]; omega
theorem vt_size : ∀ (t : Ty) (k : Nat), (t.vt k).size ≤ 2 * t.write.length
  | .bit, k => by simp [Ty.vt, bitS, Ty.write, ByteArray.size]
  | .pair a b, k => by
    have h1 := vt_size a (k / b.cnt.getD 1)
    have h2 := vt_size b (k % b.cnt.getD 1)
    rw [write_len_pair, Ty.vt]
    simp only [ByteArray.size_append]
    have e1 : ({ data := #[40, 112, 97, 105, 114, 32] } : ByteArray).size = 6 := rfl
    have e2 : ({ data := #[32] } : ByteArray).size = 1 := rfl
    have e3 : ({ data := #[41] } : ByteArray).size = 1 := rfl
    omega
  | .thunk _, _ => by simp [Ty.vt]
  | .ret _, _ => by simp [Ty.vt]
  | .fn _ _, _ => by simp [Ty.vt]
  | .choice _ _, _ => by simp [Ty.vt]
theorem cnt_pair {a b : Ty} {n : Nat} (h : (Ty.pair a b).cnt = some n) : ∃ x y, a.cnt = some x ∧ b.cnt = some y ∧ n = x * y := by
  rw [Ty.cnt] at h
  cases ha : a.cnt with
  | none => rw [ha] at h; cases h
  | some x =>
    cases hb : b.cnt with
    | none => rw [ha, hb] at h; cases h
    | some y =>
      rw [ha, hb] at h
      exact ⟨x, y, rfl, rfl, (capped_some h).1⟩
/-- The leaves. -/
def Ty.lv : Ty → Nat
  | .pair a b => a.lv + b.lv
  | _ => 1
theorem lv_cnt : ∀ (t : Ty) (n : Nat), t.vp = true → t.cnt = some n → 2 ^ t.lv = n ∧ t.write.length + 5 = 6 * t.lv
  | .bit, n, _, h => by simp [Ty.cnt] at h; subst h; simp [Ty.lv, Ty.write]
  | .pair a b, n, hp, h => by
    obtain ⟨x, y, hx, hy, rfl⟩ := cnt_pair h
    simp [Ty.vp] at hp
    have h1 := lv_cnt a x hp.1 hx
    have h2 := lv_cnt b y hp.2 hy
    refine ⟨by rw [Ty.lv, Nat.pow_add, h1.1, h2.1], by rw [write_len_pair, Ty.lv]; omega⟩
  | .thunk _, _, hp, _ => by simp [Ty.vp] at hp
  | .ret _, _, hp, _ => by simp [Ty.vp] at hp
  | .fn _ _, _, hp, _ => by simp [Ty.vp] at hp
  | .choice _ _, _, hp, _ => by simp [Ty.vp] at hp
theorem vp_small {t : Ty} {n : Nat} (hp : t.vp = true) (h : t.cnt = some n) : t.write.length ≤ 67 := by
  have h1 := lv_cnt t n hp h
  have h2 := (cnt_range t n h).2
  have h3 : t.lv ≤ 12 := by
    rcases Nat.lt_or_ge 12 t.lv with h4 | h4
    · have : 2 ^ 13 ≤ 2 ^ t.lv := Nat.pow_le_pow_right (by decide) h4
      omega
    · exact h4
  omega
/-- How many counts the program may keep on its way. -/
def Ty.bud : Ty → Nat
  | .pair a b => b.write.length + a.bud + b.bud
  | _ => 0
theorem bud_le : ∀ t : Ty, t.bud ≤ t.write.length * t.write.length
  | .bit => Nat.zero_le _
  | .pair a b => by
    have h1 := bud_le a
    have h2 := bud_le b
    rw [write_len_pair, Ty.bud]
    generalize a.write.length = p at *
    generalize b.write.length = q at *
    have h3 := Nat.mul_comm p q
    simp only [Nat.add_mul, Nat.mul_add]
    omega
  | .thunk _ => Nat.zero_le _
  | .ret _ => Nat.zero_le _
  | .fn _ _ => Nat.zero_le _
  | .choice _ _ => Nat.zero_le _
end Go.Proofs.YtnmbkaemdblhpaaGreatDoor
