/- A text that reads as a tree is the tree's own text. -/
import Derived.Test.YtfogjomebcponaaDoorBytP
namespace Go.Proofs.YtfogjomebcponaaDoor
open Go.RowKit

mutual
/-- A tree as a text. -/
def Tree.write : Tree → List UInt8
  | .atom s => s.data.toList
  | .node [] => [40, 41]
  | .node (p :: ps) => 40 :: (p.write ++ (Tree.writes ps ++ [41]))
def Tree.writes : List Tree → List UInt8
  | [] => []
  | p :: ps => 32 :: (p.write ++ Tree.writes ps)
end
/-- The bytes from an index up to another. -/
def sl (s : ByteArray) (i e : Nat) : List UInt8 := (s.data.toList.drop i).take (e - i)
theorem sl_append (s : ByteArray) {i j e : Nat} (h1 : i ≤ j) (h2 : j ≤ e) : sl s i e = sl s i j ++ sl s j e := by
  unfold sl
  have e1 : e - i = (j - i) + (e - j) := by omega
  rw [e1, List.take_add, List.drop_drop]
  have e2 : i + (j - i) = j := by omega
  rw [e2]
theorem sl_one (s : ByteArray) {i : Nat} {b : UInt8} (h : i < s.size) (hb : byteAt s i = b.toNat) : sl s i (i + 1) = [b] := by
  have hl : i < s.data.toList.length := by simpa using h
  unfold sl
  rw [show i + 1 - i = 1 by omega, List.drop_eq_getElem_cons hl]
  simp only [List.take_succ_cons, List.take_zero]
  rw [byteAt_lt s i h] at hb
  have : s[i] = b := UInt8.toNat_inj.1 hb
  rw [← this]; rfl
theorem sl_extract (s : ByteArray) (i e : Nat) : (s.extract i e).data.toList = sl s i e := by
  simp only [ByteArray.data_extract, Array.toList_extract, List.extract_eq_take_drop]; rfl
theorem sl_all (s : ByteArray) : sl s 0 s.size = s.data.toList := by
  unfold sl; rw [List.drop_zero, List.take_of_length_le (by simp)]

theorem rdL_write (s : ByteArray) (f : Nat → Option (Tree × Nat)) (hb : ∀ i p e, f i = some (p, e) → i < e ∧ e ≤ s.size) (hf : ∀ i p e, f i = some (p, e) → sl s i e = p.write) :
    ∀ n i acc t e, rdL s f n i acc = some (t, e) → ∃ q qs, t = .node (acc ++ q :: qs) ∧ sl s (i + 1) e = q.write ++ (Tree.writes qs ++ [41]) := by
  intro n; induction n with
  | zero => intro i acc t e h; simp [rdL] at h
  | succ n ih =>
    intro i acc t e h
    have hbd := rdL_bound s f hb _ _ _ _ _ h
    rw [rdL] at h
    cases hr : f (i + 1) with
    | none => rw [hr] at h; simp at h
    | some x =>
      obtain ⟨p, e1⟩ := x
      have h1 := hb _ _ _ hr
      have h2 := hf _ _ _ hr
      rw [hr] at h; simp only at h
      split at h
      · rename_i hlt
        split at h
        · rename_i h41
          simp only [Option.some.injEq, Prod.mk.injEq] at h
          refine ⟨p, [], h.1.symm, ?_⟩
          rw [← h.2, sl_append s (j := e1) (by omega) (by omega), h2, sl_one s (b := 41) hlt h41]
          rfl
        · split at h
          · rename_i h32
            have hbd2 := rdL_bound s f hb _ _ _ _ _ h
            obtain ⟨q, qs, ht, hs⟩ := ih _ _ _ _ h
            refine ⟨p, q :: qs, by rw [ht]; simp, ?_⟩
            rw [sl_append s (j := e1) (by omega) (by omega), h2, sl_append s (j := e1 + 1) (by omega) (by omega), hs, sl_one s (b := 32) hlt h32]
            simp [Tree.writes]
          · simp at h
      · simp at h
theorem rd_write (s : ByteArray) : ∀ k i p e, rd s k i = some (p, e) → sl s i e = p.write := by
  intro k; induction k with
  | zero => intro i p e h; simp [rd] at h
  | succ k ih =>
    intro i p e h
    have hbd := rd_bound s _ _ _ _ h
    rw [rd] at h
    split at h
    · rename_i hlt
      split at h
      · rename_i h40
        obtain ⟨q, qs, ht, hs⟩ := rdL_write s _ (rd_bound s k) ih _ _ _ _ _ h
        rw [ht, List.nil_append, Tree.write, sl_append s (j := i + 1) (by omega) (by omega), sl_one s (b := 40) hlt h40, hs]
        rfl
      · split at h
        · simp at h
        · simp only [Option.some.injEq, Prod.mk.injEq] at h
          obtain ⟨rfl, rfl⟩ := h
          rw [Tree.write, sl_extract]
    · simp at h
theorem parse_write {s : ByteArray} {t : Tree} (h : parse s = some t) : s.data.toList = t.write := by
  unfold parse at h
  split at h
  · cases hr : rd s 101 0 with
    | none => rw [hr] at h; simp at h
    | some x =>
      obtain ⟨p, e⟩ := x
      rw [hr] at h; simp only at h
      split at h
      · rename_i he
        simp at h; subst h
        rw [← rd_write s _ _ _ _ hr, he, sl_all]
      · simp at h
  · simp at h

theorem parse_small {s : ByteArray} {t : Tree} (h : parse s = some t) : t.write.length ≤ 12000 := by
  rw [← parse_write h]
  unfold parse at h
  split at h
  · simpa using ‹s.size ≤ 12000›
  · simp at h
end Go.Proofs.YtfogjomebcponaaDoor
