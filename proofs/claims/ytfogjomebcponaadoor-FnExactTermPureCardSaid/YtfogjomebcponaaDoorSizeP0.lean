/- The sizes of terms; what the program and the model read a text as. -/
import Derived.Test.YtfogjomebcponaaDoorTermR
namespace Go.Proofs.YtfogjomebcponaaDoor
open Go.RowKit

theorem tmsizes_snoc (ks : List Tm) (i : Nat) (k : Tm) (h : ks[i]? = some k) : Tm.sizes (ks.take (i + 1)) = Tm.sizes (ks.take i) + k.size := by
  rw [List.take_add_one, h, Option.toList_some, tmsizes_append, Tm.sizes, Tm.sizes]; omega
theorem tmsizes_take (ks : List Tm) (i : Nat) : Tm.sizes (ks.take i) ≤ Tm.sizes ks := by
  have h := tmsizes_append (ks.take i) (ks.drop i)
  rw [List.take_append_drop] at h; omega
theorem tm_size_pos : ∀ m : Tm, 1 ≤ m.size
  | .mk _ _ _ _ _ _ => by rw [Tm.size]; omega
theorem tmsizes_length (ks : List Tm) : ks.length ≤ Tm.sizes ks := by
  induction ks with
  | nil => simp
  | cons k ks ih => have := tm_size_pos k; simp only [List.length_cons, Tm.sizes]; omega
theorem readTm_inv {s : ByteArray} {m : Tm} (h : readTm s = some m) : ∃ t, parse s = some t ∧ t.tm [] = some m ∧ t.size ≤ 1500 ∧ m.size ≤ 1500 := by
  unfold readTm at h
  cases hp : parse s with
  | none => rw [hp] at h; simp at h
  | some t =>
    rw [hp] at h; simp only at h
    split at h
    · rename_i hc; exact ⟨t, rfl, h, hc, by rw [← tm_size t [] m h]; exact hc⟩
    · simp at h
end Go.Proofs.YtfogjomebcponaaDoor
