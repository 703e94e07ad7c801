/- Merged: Pure, BytP, WriteP, TextP, Kit, BackP, ValsP, NameP, NodeR, TxP. -/
import Derived.WalkKit
namespace Go.Proofs.YtgogoekfidbpdaaDoor
open Go.RowKit

/-- A byte of an atom. -/
def atomB (c : Nat) : Bool := decide ((97 ≤ c ∧ c ≤ 122) ∨ (48 ≤ c ∧ c ≤ 57) ∨ c = 42 ∨ c = 62 ∨ c = 38)
theorem atomB_t {c : Nat} (h : (97 ≤ c ∧ c ≤ 122) ∨ (48 ≤ c ∧ c ≤ 57) ∨ c = 42 ∨ c = 62 ∨ c = 38) : atomB c = true := decide_eq_true h
theorem atomB_f {c : Nat} (h : ¬ ((97 ≤ c ∧ c ≤ 122) ∨ (48 ≤ c ∧ c ≤ 57) ∨ c = 42 ∨ c = 62 ∨ c = 38)) : atomB c = false := decide_eq_false h

/-- A fact kept from the walk. -/
theorem hid {p : Prop} (h : p) : Hid p := h
theorem ret_bool {a b : Bool} (h : a = b) : Ending.returned (.bool a) = .returned (.bool b) := by rw [h]
theorem ret_int {k : IntKind} {a b : Int} (h : a = b) : Ending.returned (.int k a) = .returned (.int k b) := by rw [h]
theorem ret_str {a b : ByteArray} (h : a = b) : Ending.returned (.string a) = .returned (.string b) := by rw [h]

/-- The byte at an index, 0 behind the end. -/
def byteAt (s : ByteArray) (i : Nat) : Nat := if h : i < s.size then (s[i]'h).toNat else 0
theorem byteAt_lt (s : ByteArray) (i : Nat) (h : i < s.size) : byteAt s i = (s[i]'h).toNat := dif_pos h
theorem byteAt_256 (s : ByteArray) (i : Nat) : byteAt s i < 256 := by
  unfold byteAt; split
  · exact UInt8.toNat_lt _
  · omega

/-- Where a run of atom bytes ends, n bytes at most. -/
def runF (s : ByteArray) : Nat → Nat → Nat
  | 0, i => i
  | n + 1, i => if i < s.size ∧ atomB (byteAt s i) = true then runF s n (i + 1) else i
/-- Where the run of atom bytes from i on ends. -/
def runEnd (s : ByteArray) (i : Nat) : Nat := runF s (s.size - i) i

theorem runF_ge (s : ByteArray) : ∀ n i, i ≤ runF s n i := by
  intro n; induction n with
  | zero => intro i; exact Nat.le_refl _
  | succ n ih => intro i; unfold runF; split
                 · have := ih (i + 1); omega
                 · exact Nat.le_refl _
theorem runF_le (s : ByteArray) : ∀ n i, i ≤ s.size → runF s n i ≤ s.size := by
  intro n; induction n with
  | zero => intro i h; exact h
  | succ n ih => intro i h; unfold runF; split
                 · rename_i hc; exact ih (i + 1) hc.1
                 · exact h
theorem runEnd_ge (s : ByteArray) (i : Nat) : i ≤ runEnd s i := runF_ge _ _ _
theorem runEnd_le (s : ByteArray) (i : Nat) (h : i ≤ s.size) : runEnd s i ≤ s.size := runF_le _ _ _ h
theorem runEnd_go (s : ByteArray) (i : Nat) (h : i < s.size) (ha : atomB (byteAt s i) = true) : runEnd s i = runEnd s (i + 1) := by
  unfold runEnd
  have e : s.size - i = (s.size - (i + 1)) + 1 := by omega
  rw [e]; conv => lhs; unfold runF
  rw [if_pos ⟨h, ha⟩]
theorem runEnd_stop (s : ByteArray) (i : Nat) (h : ¬ (i < s.size ∧ atomB (byteAt s i) = true)) : runEnd s i = i := by
  unfold runEnd
  cases hn : s.size - i with
  | zero => rfl
  | succ n => unfold runF; rw [if_neg h]

theorem isEmpty_of (s : ByteArray) (h : s.size = 0) : s.toList.isEmpty = true := by
  rw [Go.ByteArray.toList_eq, List.isEmpty_iff, ← List.length_eq_zero_iff]; simpa using h
theorem isEmpty_not (s : ByteArray) (h : s.size ≠ 0) : s.toList.isEmpty = false := by
  rw [Go.ByteArray.toList_eq, Bool.eq_false_iff]; intro hc
  rw [List.isEmpty_iff, ← List.length_eq_zero_iff] at hc; exact h (by simpa using hc)
theorem extract_empty_t (s : ByteArray) (i : Nat) : (s.extract i i).toList.isEmpty = true := isEmpty_of _ (by simp)
theorem extract_empty_f (s : ByteArray) (i j : Nat) (h : i < j) (hj : j ≤ s.size) : (s.extract i j).toList.isEmpty = false := isEmpty_not _ (by simp [ByteArray.size_extract]; omega)

/-- A text that is read: an atom, or parts in parentheses. -/
inductive Tree where
  | atom (s : ByteArray)
  | node (parts : List Tree)

/-- The parts behind a parenthesis or a blank at an index: each by 'rd', which tells what it reads and where that ends. -/
def rdL (s : ByteArray) (rd : Nat → Option (Tree × Nat)) : Nat → Nat → List Tree → Option (Tree × Nat)
  | 0, _, _ => none
  | n + 1, i, acc => match rd (i + 1) with
    | none => none
    | some (p, e) =>
      if e < s.size then
        if byteAt s e = 41 then some (.node (acc ++ [p]), e + 1)
        else if byteAt s e = 32 then rdL s rd n e (acc ++ [p]) else none
      else none

/-- What is read from an index on, k - 1 parentheses within each other at most. -/
def rd (s : ByteArray) : Nat → Nat → Option (Tree × Nat)
  | 0, _ => none
  | k + 1, i =>
    if i < s.size then
      if byteAt s i = 40 then rdL s (rd s k) (s.size + 1) i []
      else if runEnd s i = i then none else some (.atom (s.extract i (runEnd s i)), runEnd s i)
    else none

/-- What is read ends behind where it begins, and within the text. -/
theorem rdL_bound (s : ByteArray) (f : Nat → Option (Tree × Nat)) (hf : ∀ i p e, f i = some (p, e) → i < e ∧ e ≤ s.size) :
    ∀ n i acc p e, rdL s f n i acc = some (p, e) → i < e ∧ e ≤ s.size := by
  intro n; induction n with
  | zero => intro i acc p e h; simp [rdL] at h
  | succ n ih =>
    intro i acc p e h
    rw [rdL] at h
    cases hr : f (i + 1) with
    | none => rw [hr] at h; simp at h
    | some x =>
      obtain ⟨p1, e1⟩ := x
      have hb := hf _ _ _ hr
      rw [hr] at h; simp only at h
      split at h
      · split at h
        · simp only [Option.some.injEq, Prod.mk.injEq] at h; omega
        · split at h
          · have := ih _ _ _ _ h; omega
          · simp at h
      · simp at h
theorem rd_bound (s : ByteArray) : ∀ k i p e, rd s k i = some (p, e) → i < e ∧ e ≤ s.size := by
  intro k; induction k with
  | zero => intro i p e h; simp [rd] at h
  | succ k ih =>
    intro i p e h
    rw [rd] at h
    split at h
    · split at h
      · exact rdL_bound s _ ih _ _ _ _ _ h
      · split at h
        · simp at h
        · simp only [Option.some.injEq, Prod.mk.injEq] at h
          have := runEnd_ge s i; have := runEnd_le s i (by omega); omega
    · simp at h
/-- More rounds do not matter where there are enough. -/
theorem rdL_more (s : ByteArray) (f : Nat → Option (Tree × Nat)) (hf : ∀ i p e, f i = some (p, e) → i < e ∧ e ≤ s.size) :
    ∀ n m i acc, s.size < n + i → s.size < m + i → rdL s f n i acc = rdL s f m i acc := by
  intro n; induction n with
  | zero =>
    intro m i acc hn hm
    cases m with
    | zero => rfl
    | succ m =>
      rw [rdL, rdL]
      cases hr : f (i + 1) with
      | none => rfl
      | some x => have := hf _ _ _ hr; omega
  | succ n ih =>
    intro m i acc hn hm
    cases m with
    | zero =>
      rw [rdL, rdL]
      cases hr : f (i + 1) with
      | none => rfl
      | some x => have := hf _ _ _ hr; omega
    | succ m =>
      rw [rdL, rdL]
      cases hr : f (i + 1) with
      | none => rfl
      | some x =>
        have := hf _ _ _ hr
        simp only
        rw [ih m x.2 _ (by omega) (by omega)]

theorem rd_none_atom {s : ByteArray} {k i : Nat} (hk : 0 < k) (hi : i < s.size) (h40 : byteAt s i ≠ 40) (hn : runEnd s i = i) : rd s k i = none := by
  obtain ⟨k, rfl⟩ : ∃ k', k = k' + 1 := ⟨k - 1, by omega⟩
  rw [rd, if_pos hi, if_neg h40, if_pos hn]
theorem rd_some_atom {s : ByteArray} {k i : Nat} (hk : 0 < k) (hi : i < s.size) (h40 : byteAt s i ≠ 40) (hn : runEnd s i ≠ i) : rd s k i = some (.atom (s.extract i (runEnd s i)), runEnd s i) := by
  obtain ⟨k, rfl⟩ : ∃ k', k = k' + 1 := ⟨k - 1, by omega⟩
  rw [rd, if_pos hi, if_neg h40, if_neg hn]
theorem rd_none_end {s : ByteArray} {k i : Nat} (hi : ¬ i < s.size) : rd s k i = none := by
  cases k with
  | zero => rfl
  | succ k => rw [rd, if_neg hi]
theorem rd_paren {s : ByteArray} {k i : Nat} (hi : i < s.size) (h40 : byteAt s i = 40) : rd s (k + 1) i = rdL s (rd s k) (s.size + 1) i [] := by
  rw [rd, if_pos hi, if_pos h40]

/-- The head of a tree in memory: its atom; its parts' slice. -/
structure Hd where
  a : ByteArray
  p : Option Addr
  l : Nat
  c : Nat
  deriving Inhabited
def Hd.sl (h : Hd) : Value := .slice h.p h.l h.c

/-- How a tree that is read lies in memory: the two cells of its struct (the atom, the parts). 'S': which blocks its parts lie in. -/
inductive TIn (w : World) (S : Nat → Prop) : Tree → Hd → Prop
  | atom (s : ByteArray) (h : s.size ≠ 0) (hm : s.size ≤ maxLen) : TIn w S (.atom s) ⟨s, none, 0, 0⟩
  | node (ps : List Tree) (b cap : Nat) (A : Nat → Hd) (hp : 0 < ps.length) (hl : ps.length ≤ cap) (hc : cap ≤ maxLen) (hS : S b)
      (hA : ∀ i, i < ps.length → w.cell? ⟨b, i * 2, none⟩ = some (.string (A i).a)) (hB : ∀ i, i < ps.length → w.cell? ⟨b, i * 2 + 1, none⟩ = some (.slice (A i).p (A i).l (A i).c))
      (hps : ∀ i p, ps[i]? = some p → TIn w S p (A i)) : TIn w S (.node ps) ⟨ByteArray.empty, some ⟨b, 0, none⟩, ps.length, cap⟩

/-- A tree stays where the blocks that it lies in stay. -/
theorem TIn.keep {w w' : World} {S S' : Nat → Prop} {t : Tree} {a : Hd} (h : TIn w S t a) (hb : ∀ k, S k → k < w.heap.size → w'.heap[k]? = w.heap[k]?) (hS : ∀ k, S k → k < w.heap.size → S' k) : TIn w' S' t a := by
  induction h with
  | atom s h hm => exact .atom s h hm
  | node ps b cap A hp hl hc hS0 hA hB _ ih =>
    have hlt : b < w.heap.size := World.block_lt_of_cell? w _ (hA 0 hp)
    have hk := hb b hS0 hlt
    refine .node ps b cap A hp hl hc (hS b hS0 hlt) (fun i hi => ?_) (fun i hi => ?_) ih
    · exact (World.cell?_of_block (w := w) (a := ⟨b, i * 2, none⟩) hk).trans (hA i hi)
    · exact (World.cell?_of_block (w := w) (a := ⟨b, i * 2 + 1, none⟩) hk).trans (hB i hi)

theorem TIn.under {w w' : World} {S : Nat → Prop} {t : Tree} {a : Hd} (h : TIn w S t a) {B : Nat} (hb : Below B w w') (hS : ∀ k, S k → k < w.heap.size → k < B) : TIn w' S t a :=
  h.keep (fun k hk hl => hb.block k (hS k hk hl)) (fun _ hk _ => hk)

theorem TIn.len {w : World} {S : Nat → Prop} {t : Tree} {h : Hd} (ht : TIn w S t h) : h.l ≤ maxLen := by
  cases ht with
  | atom s _ _ => exact Nat.zero_le _
  | node ps b cap A hp hl hc _ _ _ _ => exact Nat.le_trans hl hc

/-- What is not new stays. -/
def Kept (w w' : World) : Prop := ∀ k, k < w.heap.size → w'.heap[k]? = w.heap[k]?
theorem Kept.refl (w : World) : Kept w w := fun _ _ => rfl
theorem Kept.below {w w1 w2 : World} (h : Kept w w1) {B : Nat} (hb : Below B w1 w2) (hB : w.heap.size ≤ B) : Kept w w2 := fun k hk => (hb.block k (by omega)).trans (h k hk)
theorem Kept.cell {w w' : World} (h : Kept w w') {a : Addr} {v : Value} (hc : w.cell? a = some v) : w'.cell? a = some v := (World.cell?_of_block (w := w) (h _ (World.block_lt_of_cell? w a hc))).trans hc
theorem Kept.of_below {w w' : World} {B : Nat} (hb : Below B w w') (hB : w.heap.size ≤ B) : Kept w w' := (Kept.refl w).below hb hB
theorem Kept.trans {w w1 w2 : World} (h : Kept w w1) (h2 : Kept w1 w2) (hs : w.heap.size ≤ w1.heap.size) : Kept w w2 := fun k hk => (h2 k (by omega)).trans (h k hk)

mutual
/-- How many atoms a tree has. -/
def Tree.size : Tree → Nat
  | .atom _ => 1
  | .node ps => Tree.sizes ps
def Tree.sizes : List Tree → Nat
  | [] => 0
  | p :: ps => p.size + Tree.sizes ps
end
theorem sizes_append (a b : List Tree) : Tree.sizes (a ++ b) = Tree.sizes a + Tree.sizes b := by
  induction a with
  | nil => simp [Tree.sizes]
  | cons x a ih => simp only [List.cons_append, Tree.sizes, ih]; omega
theorem sizes_snoc (ps : List Tree) (i : Nat) (p : Tree) (h : ps[i]? = some p) : Tree.sizes (ps.take (i + 1)) = Tree.sizes (ps.take i) + p.size := by
  rw [List.take_add_one, h, Option.toList_some, sizes_append, Tree.sizes, Tree.sizes]; omega
theorem sizes_take (ps : List Tree) (i : Nat) : Tree.sizes (ps.take i) ≤ Tree.sizes ps := by
  have h := sizes_append (ps.take i) (ps.drop i)
  rw [List.take_append_drop] at h; omega
theorem size_part (ps : List Tree) (i : Nat) (p : Tree) (h : ps[i]? = some p) : p.size ≤ Tree.sizes ps := by
  have := sizes_snoc ps i p h; have := sizes_take ps (i + 1); omega
/-- A tree has no more atoms than its text has bytes. -/
theorem rdL_size (s : ByteArray) (f : Nat → Option (Tree × Nat)) (hf : ∀ i p e, f i = some (p, e) → i + p.size ≤ e) :
    ∀ n i acc p e, rdL s f n i acc = some (p, e) → i + p.size ≤ e + Tree.sizes acc := by
  intro n; induction n with
  | zero => intro i acc p e h; simp [rdL] at h
  | succ n ih =>
    intro i acc p e h
    rw [rdL] at h
    cases hr : f (i + 1) with
    | none => rw [hr] at h; simp at h
    | some x =>
      obtain ⟨p1, e1⟩ := x
      have hb := hf _ _ _ hr
      rw [hr] at h; simp only at h
      split at h
      · split at h
        · simp only [Option.some.injEq, Prod.mk.injEq] at h
          obtain ⟨rfl, rfl⟩ := h
          simp only [Tree.size, sizes_append, Tree.sizes]; omega
        · split at h
          · have := ih _ _ _ _ h
            simp only [sizes_append, Tree.sizes] at this; omega
          · simp at h
      · simp at h
theorem rd_size (s : ByteArray) : ∀ k i p e, rd s k i = some (p, e) → i + p.size ≤ e := by
  intro k; induction k with
  | zero => intro i p e h; simp [rd] at h
  | succ k ih =>
    intro i p e h
    rw [rd] at h
    split at h
    · split at h
      · have := rdL_size s _ ih _ _ _ _ _ h; simpa [Tree.sizes] using this
      · split at h
        · simp at h
        · simp only [Option.some.injEq, Prod.mk.injEq] at h
          obtain ⟨rfl, rfl⟩ := h
          have := runEnd_ge s i; simp only [Tree.size]; omega
    · simp at h

mutual
/-- The weight of a tree: what bounds its atoms and the number of its parts. -/
def Tree.wt : Tree → Nat
  | .atom _ => 1
  | .node ps => 1 + Tree.wts ps
def Tree.wts : List Tree → Nat
  | [] => 0
  | p :: ps => p.wt + Tree.wts ps
end
theorem wt_pos : ∀ t : Tree, 1 ≤ t.wt
  | .atom _ => Nat.le_refl _
  | .node ps => by rw [Tree.wt]; omega
theorem wts_append (a b : List Tree) : Tree.wts (a ++ b) = Tree.wts a + Tree.wts b := by
  induction a with
  | nil => simp [Tree.wts]
  | cons x a ih => simp only [List.cons_append, Tree.wts, ih]; omega
theorem wts_length (ps : List Tree) : ps.length ≤ Tree.wts ps := by
  induction ps with
  | nil => simp
  | cons p ps ih => have := wt_pos p; simp only [List.length_cons, Tree.wts]; omega
theorem wt_part (ps : List Tree) (i : Nat) (p : Tree) (h : ps[i]? = some p) : p.wt ≤ Tree.wts ps := by
  induction ps generalizing i with
  | nil => simp at h
  | cons q ps ih =>
    cases i with
    | zero => simp at h; subst h; simp only [Tree.wts]; omega
    | succ i => have := ih i (by simpa using h); simp only [Tree.wts]; omega
mutual
theorem size_le_wt : ∀ t : Tree, t.size ≤ t.wt
  | .atom _ => Nat.le_refl _
  | .node ps => by rw [Tree.size, Tree.wt]; have := sizes_le_wts ps; omega
theorem sizes_le_wts : ∀ ps : List Tree, Tree.sizes ps ≤ Tree.wts ps
  | [] => Nat.le_refl _
  | p :: ps => by rw [Tree.sizes, Tree.wts]; have := size_le_wt p; have := sizes_le_wts ps; omega
end
theorem rdL_wt (s : ByteArray) (f : Nat → Option (Tree × Nat)) (hf : ∀ i p e, f i = some (p, e) → i + p.wt ≤ e) :
    ∀ n i acc p e, rdL s f n i acc = some (p, e) → i + p.wt ≤ e + Tree.wts acc := by
  intro n; induction n with
  | zero => intro i acc p e h; simp [rdL] at h
  | succ n ih =>
    intro i acc p e h
    rw [rdL] at h
    cases hr : f (i + 1) with
    | none => rw [hr] at h; simp at h
    | some x =>
      obtain ⟨p1, e1⟩ := x
      have hb := hf _ _ _ hr
      rw [hr] at h; simp only at h
      split at h
      · split at h
        · simp only [Option.some.injEq, Prod.mk.injEq] at h
          obtain ⟨rfl, rfl⟩ := h
          simp only [Tree.wt, wts_append, Tree.wts]; omega
        · split at h
          · have := ih _ _ _ _ h
            simp only [wts_append, Tree.wts] at this; omega
          · simp at h
      · simp at h
theorem rd_wt (s : ByteArray) : ∀ k i p e, rd s k i = some (p, e) → i + p.wt ≤ e := by
  intro k; induction k with
  | zero => intro i p e h; simp [rd] at h
  | succ k ih =>
    intro i p e h
    rw [rd] at h
    split at h
    · split at h
      · have := rdL_wt s _ ih _ _ _ _ _ h; simpa [Tree.wts] using this
      · split at h
        · simp at h
        · simp only [Option.some.injEq, Prod.mk.injEq] at h
          obtain ⟨rfl, rfl⟩ := h
          have := runEnd_ge s i; simp only [Tree.wt]; omega
    · simp at h

/-- What a whole text reads as. -/
def parse (s : ByteArray) : Option Tree :=
  if s.size ≤ 12000 then
    match rd s 101 0 with
    | some (t, e) => if e = s.size then some t else none
    | none => none
  else none
theorem parse_wt {s : ByteArray} {t : Tree} (h : parse s = some t) : t.wt ≤ 12000 := by
  unfold parse at h
  split at h
  · cases hr : rd s 101 0 with
    | none => rw [hr] at h; simp at h
    | some x =>
      obtain ⟨p, e⟩ := x
      rw [hr] at h; simp only at h
      split at h
      · simp at h; subst h; have := rd_wt _ _ _ _ _ hr; omega
      · simp at h
  · simp at h
theorem Kept.alloc {w w1 : World} (h : Kept w w1) (hs : w.heap.size ≤ w1.heap.size) (o : Obj) : Kept w (w1.alloc o) := h.below ((Below.refl w.heap.size w1).alloc hs o) (Nat.le_refl _)
theorem TIn.atom_inv {w : World} {S : Nat → Prop} {s : ByteArray} {a : ByteArray} {p : Option Addr} {l c : Nat} (h : TIn w S (.atom s) ⟨a, p, l, c⟩) : a = s ∧ p = none ∧ l = 0 ∧ c = 0 ∧ s.size ≠ 0 := by
  cases h with
  | atom s h hm => exact ⟨rfl, rfl, rfl, rfl, h⟩
theorem TIn.node_inv {w : World} {S : Nat → Prop} {ps : List Tree} {a : ByteArray} {p : Option Addr} {l c : Nat} (h : TIn w S (.node ps) ⟨a, p, l, c⟩) : ∃ (b : Nat) (A : Nat → Hd), a = ByteArray.empty ∧ p = some ⟨b, 0, none⟩ ∧ l = ps.length ∧ ps.length ≤ c ∧ c ≤ maxLen ∧ 0 < ps.length ∧
    (∀ i, i < ps.length → w.cell? ⟨b, i * 2, none⟩ = some (.string (A i).a)) ∧ (∀ i, i < ps.length → w.cell? ⟨b, i * 2 + 1, none⟩ = some (.slice (A i).p (A i).l (A i).c)) ∧ (∀ i q, ps[i]? = some q → TIn w S q (A i)) := by
  cases h with
  | node ps b cap A hp hl hc hS hA hB hps => exact ⟨b, A, rfl, rfl, rfl, hl, hc, hp, hA, hB, hps⟩
end Go.Proofs.YtgogoekfidbpdaaDoor

namespace Go.Proofs.YtgogoekfidbpdaaDoor
open Go.RowKit

theorem bytes_of_toList {a : ByteArray} {l : List UInt8} (h : a.toList = l) : a = ⟨l.toArray⟩ := by
  rw [Go.ByteArray.toList_eq] at h
  cases a with
  | mk d => simp at h; rw [← h]
theorem append_toList (a b : ByteArray) : (a ++ b).toList = a.toList ++ b.toList := by
  rw [Go.ByteArray.toList_eq, Go.ByteArray.toList_eq, Go.ByteArray.toList_eq]; simp

theorem space_toList : ({ data := #[32] } : ByteArray).toList = [32] := by rw [Go.ByteArray.toList_eq]
end Go.Proofs.YtgogoekfidbpdaaDoor

namespace Go.Proofs.YtgogoekfidbpdaaDoor
open Go.RowKit

mutual
/-- A tree as a text. -/
def Tree.write : Tree → List UInt8
  | .atom s => s.data.toList
  | .node [] => [40, 41]
  | .node (p :: ps) => 40 :: (p.write ++ (Tree.writes ps ++ [41]))
def Tree.writes : List Tree → List UInt8
  | [] => []
  | p :: ps => 32 :: (p.write ++ Tree.writes ps)
end
/-- The bytes from an index up to another. -/
def sl (s : ByteArray) (i e : Nat) : List UInt8 := (s.data.toList.drop i).take (e - i)
theorem sl_append (s : ByteArray) {i j e : Nat} (h1 : i ≤ j) (h2 : j ≤ e) : sl s i e = sl s i j ++ sl s j e := by
  unfold sl
  have e1 : e - i = (j - i) + (e - j) := by omega
  rw [e1, List.take_add, List.drop_drop]
  have e2 : i + (j - i) = j := by omega
  rw [e2]
theorem sl_one (s : ByteArray) {i : Nat} {b : UInt8} (h : i < s.size) (hb : byteAt s i = b.toNat) : sl s i (i + 1) = [b] := by
  have hl : i < s.data.toList.length := by simpa using h
  unfold sl
  rw [show i + 1 - i = 1 by omega, List.drop_eq_getElem_cons hl]
  simp only [List.take_succ_cons, List.take_zero]
  rw [byteAt_lt s i h] at hb
  have : s[i] = b := UInt8.toNat_inj.1 hb
  rw [← this]; rfl
theorem sl_extract (s : ByteArray) (i e : Nat) : (s.extract i e).data.toList = sl s i e := by
  simp only [ByteArray.data_extract, Array.toList_extract, List.extract_eq_take_drop]; rfl
theorem sl_all (s : ByteArray) : sl s 0 s.size = s.data.toList := by
  unfold sl; rw [List.drop_zero, List.take_of_length_le (by simp)]

theorem rdL_write (s : ByteArray) (f : Nat → Option (Tree × Nat)) (hb : ∀ i p e, f i = some (p, e) → i < e ∧ e ≤ s.size) (hf : ∀ i p e, f i = some (p, e) → sl s i e = p.write) :
    ∀ n i acc t e, rdL s f n i acc = some (t, e) → ∃ q qs, t = .node (acc ++ q :: qs) ∧ sl s (i + 1) e = q.write ++ (Tree.writes qs ++ [41]) := by
  intro n; induction n with
  | zero => intro i acc t e h; simp [rdL] at h
  | succ n ih =>
    intro i acc t e h
    have hbd := rdL_bound s f hb _ _ _ _ _ h
    rw [rdL] at h
    cases hr : f (i + 1) with
    | none => rw [hr] at h; simp at h
    | some x =>
      obtain ⟨p, e1⟩ := x
      have h1 := hb _ _ _ hr
      have h2 := hf _ _ _ hr
      rw [hr] at h; simp only at h
      split at h
      · rename_i hlt
        split at h
        · rename_i h41
          simp only [Option.some.injEq, Prod.mk.injEq] at h
          refine ⟨p, [], h.1.symm, ?_⟩
          rw [← h.2, sl_append s (j := e1) (by omega) (by omega), h2, sl_one s (b := 41) hlt h41]
          rfl
        · split at h
          · rename_i h32
            have hbd2 := rdL_bound s f hb _ _ _ _ _ h
            obtain ⟨q, qs, ht, hs⟩ := ih _ _ _ _ h
            refine ⟨p, q :: qs, by rw [ht]; simp, ?_⟩
            rw [sl_append s (j := e1) (by omega) (by omega), h2, sl_append s (j := e1 + 1) (by omega) (by omega), hs, sl_one s (b := 32) hlt h32]
            simp [Tree.writes]
          · simp at h
      · simp at h
theorem rd_write (s : ByteArray) : ∀ k i p e, rd s k i = some (p, e) → sl s i e = p.write := by
  intro k; induction k with
  | zero => intro i p e h; simp [rd] at h
  | succ k ih =>
    intro i p e h
    have hbd := rd_bound s _ _ _ _ h
    rw [rd] at h
    split at h
    · rename_i hlt
      split at h
      · rename_i h40
        obtain ⟨q, qs, ht, hs⟩ := rdL_write s _ (rd_bound s k) ih _ _ _ _ _ h
        rw [ht, List.nil_append, Tree.write, sl_append s (j := i + 1) (by omega) (by omega), sl_one s (b := 40) hlt h40, hs]
        rfl
      · split at h
        · simp at h
        · simp only [Option.some.injEq, Prod.mk.injEq] at h
          obtain ⟨rfl, rfl⟩ := h
          rw [Tree.write, sl_extract]
    · simp at h
theorem parse_write {s : ByteArray} {t : Tree} (h : parse s = some t) : s.data.toList = t.write := by
  unfold parse at h
  split at h
  · cases hr : rd s 101 0 with
    | none => rw [hr] at h; simp at h
    | some x =>
      obtain ⟨p, e⟩ := x
      rw [hr] at h; simp only at h
      split at h
      · rename_i he
        simp at h; subst h
        rw [← rd_write s _ _ _ _ hr, he, sl_all]
      · simp at h
  · simp at h

theorem parse_small {s : ByteArray} {t : Tree} (h : parse s = some t) : t.write.length ≤ 12000 := by
  rw [← parse_write h]
  unfold parse at h
  split at h
  · simpa using ‹s.size ≤ 12000›
  · simp at h
end Go.Proofs.YtgogoekfidbpdaaDoor

namespace Go.Proofs.YtgogoekfidbpdaaDoor
open Go.RowKit

/-- Parts with blanks between them. -/
def Tree.join : List Tree → List UInt8
  | [] => []
  | p :: ps => p.write ++ Tree.writes ps
theorem write_node (ps : List Tree) : (Tree.node ps).write = 40 :: (Tree.join ps ++ [41]) := by
  cases ps with
  | nil => rfl
  | cons p ps => rw [Tree.write, Tree.join]; simp
theorem writes_append (a b : List Tree) : Tree.writes (a ++ b) = Tree.writes a ++ Tree.writes b := by
  induction a with
  | nil => rfl
  | cons p a ih => simp [Tree.writes, ih]
theorem join_append (a b : List Tree) (h : a ≠ []) : Tree.join (a ++ b) = Tree.join a ++ Tree.writes b := by
  cases a with
  | nil => exact absurd rfl h
  | cons p a => simp [Tree.join, writes_append]
theorem join_take (ps : List Tree) (j : Nat) : (Tree.join (ps.take j)).length ≤ (Tree.join ps).length := by
  by_cases h : ps.take j = []
  · rw [h]; simp [Tree.join]
  · conv => rhs; rw [← List.take_append_drop j ps, join_append _ _ h]
    simp
theorem join_snoc (ps : List Tree) (j : Nat) (p : Tree) (h : ps[j]? = some p) (hj : 0 < j) : Tree.join (ps.take (j + 1)) = Tree.join (ps.take j) ++ 32 :: p.write := by
  rw [List.take_add_one, h]
  have hlt := (List.getElem?_eq_some_iff.1 h).1
  rw [join_append _ _ (by intro e; have := congrArg List.length e; rw [List.length_take, List.length_nil] at this; omega)]
  simp [Tree.writes]
theorem join_first (ps : List Tree) (p : Tree) (h : ps[0]? = some p) : Tree.join (ps.take 1) = p.write := by
  cases ps with
  | nil => simp at h
  | cons q ps => simp at h; subst h; simp [Tree.join, Tree.writes]
theorem join_part (ps : List Tree) (j : Nat) (p : Tree) (h : ps[j]? = some p) : p.write.length ≤ (Tree.join ps).length := by
  have h1 := join_take ps (j + 1)
  by_cases hj : j = 0
  · subst hj; rw [join_first ps p h] at h1; exact h1
  · rw [join_snoc ps j p h (by omega)] at h1; simp at h1; omega
theorem size_toList (a : ByteArray) : a.size = a.toList.length := by rw [Go.ByteArray.toList_eq]; simp
/-- A tree's text. -/
def Tree.txt (t : Tree) : ByteArray := ⟨t.write.toArray⟩
theorem txt_toList (t : Tree) : t.txt.toList = t.write := by rw [Go.ByteArray.toList_eq]; rfl
theorem txt_size (t : Tree) : t.txt.size = t.write.length := by simp [Tree.txt, ByteArray.size]
end Go.Proofs.YtgogoekfidbpdaaDoor

namespace Go.Proofs.YtgogoekfidbpdaaDoor
open Go.RowKit

/-- An append to a slice of the call's own stays in its block, or moves to a new one. -/
theorem run_append_where {P : Program} (w : World) (base : Nat) (t ty e : TypeId) (i : TypeInfo) (z : Value) (size bytes : Nat) (ht : P.underlying t = some (.slice e)) (hi : P.info? e = some i) (hz : i.zero = some z)
    (hsize : i.size = size) (hby : i.bytes = bytes) (hsz : 0 < size)
    (v : Value) (n : Nat) (xs : List Value) (hown : w.ownsRow base e size v n xs)
    (a : Addr) (m c : Nat) (news : List Value) (hl : news.length = m * size) (hnews : ∀ j u, news[j]? = some u → w.cell? (a.add j) = some u) (h1 : ∀ u ∈ news, u.oneCell' = true) (hm : 0 < m)
    (h63 : n + m ≤ maxLen) (hbytes : (n + m) * bytes ≤ 140737488355328) (v' : Value) (w' : World)
    (hr : (Builtin.append_ #[t, t] ty #[v, .slice (some a) m c]).run P w = .ok v' w') : v'.ownBlock = v.ownBlock ∨ v'.ownBlock = some w.heap.size := by
  subst hsize
  subst hby
  have hsmall : n + m ≤ 9223372036854775807 := by simp only [maxLen] at h63; omega
  rcases hown.2 with ⟨rfl, rfl⟩ | ⟨g, cap, cur, rfl, hbg, hg, hnc, hcm, hcs, htake⟩
  · have hb := hbytes
    simp only [Nat.zero_add] at hb
    have hq := run_append_nil (P := P) w t ty e i z ht hi hz a m c news hl hnews hm (by omega) (by omega)
    rw [hq] at hr
    obtain ⟨rfl, rfl⟩ : _ = v' ∧ _ = w' := by simpa using hr
    exact Or.inr rfl
  · by_cases hroom : n + m ≤ cap
    · have hfit : n * i.size + news.length ≤ cur.size := by rw [hl, hcs, ← Nat.add_mul]; exact Nat.mul_le_mul_right _ hroom
      have hq := run_append_room (P := P) w t ty e i ht hi g n cap cur hg a m c news hl hnews h1 hroom hfit
      rw [hq] at hr
      obtain ⟨rfl, rfl⟩ : _ = v' ∧ _ = w' := by simpa using hr
      exact Or.inl rfl
    · have holds : ∀ j u, xs[j]? = some u → w.cell? ((⟨g, 0, none⟩ : Addr).add j) = some u := hown.cells (g := g) rfl
      have hq := run_append_grow (P := P) w t ty e i z ht hi hz ⟨g, 0, none⟩ n cap xs hown.1 holds a m c news hl hnews (by omega) (by omega) (growslice_fits (by omega) hbytes)
      rw [hq] at hr
      obtain ⟨rfl, rfl⟩ : _ = v' ∧ _ = w' := by simpa using hr
      exact Or.inr rfl

/-- The law on append with that word besides: what is owned behind it, and in which block. -/
theorem wpList_append_at {P : Program} (w : World) {ops : Array Oper} {rest : List Oper} {o : Oper} {a : Act} {Q : Exit → Act → World → Prop} (hgd : o.guard = none) (s x : Operand) (t : TypeId)
    (ho : o.op = .call { callee := .builtin .append, args := #[s, x], argTypes := #[t, t] })
    (base : Nat) (e : TypeId) (i : TypeInfo) (z : Value) (size bytes : Nat) (ht : P.underlying t = some (.slice e)) (hi : P.info? e = some i) (hz : i.zero = some z)
    (hsize : i.size = size) (hby : i.bytes = bytes) (hzs : z.cells.size = size) (hsz : 0 < size)
    (v : Value) (n : Nat) (xs : List Value) (hs : a.eval s = v) (hown : w.ownsRow base e size v n xs)
    (ad : Addr) (m c : Nat) (news : List Value) (hx : a.eval x = .slice (some ad) m c) (hl : news.length = m * size) (hnews : ∀ j u, news[j]? = some u → w.cell? (ad.add j) = some u) (h1 : ∀ u ∈ news, u.oneCell' = true) (hm : 0 < m)
    (h63 : n + m ≤ maxLen) (hbytes : (n + m) * bytes ≤ 140737488355328) (hbase : base ≤ w.heap.size)
    (h : ∀ v' w', w'.ownsRow base e size v' (n + m) (xs ++ news) → w.grownBy w' v.ownBlock → (v'.ownBlock = v.ownBlock ∨ v'.ownBlock = some w.heap.size) → (∃ g k, v' = .slice (some ⟨g, 0, none⟩) (n + m) k) → wpList P ops Q rest (a.put o.dst v') w') :
    wpList P ops Q (o :: rest) a w := by
  refine wpList_plain hgd fun K hK => ?_
  obtain ⟨v', w', hr, h2, h3, h4⟩ := run_append_own (P := P) w base t o.type e i z size bytes ht hi hz hsize hby hzs hsz v n xs hown ad m c news hl hnews h1 h63 hbytes hbase
  have hw := run_append_where (P := P) w base t o.type e i z size bytes ht hi hz hsize hby hsz v n xs hown ad m c news hl hnews h1 hm h63 hbytes v' w' hr
  have hv : ∃ g k, v' = .slice (some ⟨g, 0, none⟩) (n + m) k := by
    rcases h2.2 with ⟨hn, hk⟩ | ⟨g, k, cur, hv, _⟩
    · omega
    · exact ⟨g, k, hv⟩
  unfold Oper.wp execOp
  simp only [ho, resolve, invoke, builtin, Sem.run_bind, Sem.run_pure, Result.andThen_ok, List.map_toArray, List.map_cons, List.map_nil, hs, hx, hr]
  exact hK _ _ (h v' w' h2 h3 hw hv)

/-- The cells of a list of heads. -/
def two (l : List Hd) : List Value := l.flatMap fun x => [.string x.a, .slice x.p x.l x.c]
theorem two_length (l : List Hd) : (two l).length = l.length * 2 := by
  unfold two; induction l with
  | nil => rfl
  | cons x l ih => simp only [List.flatMap_cons, List.length_append, List.length_cons, List.length_nil, ih]; omega
theorem two_get (l : List Hd) : ∀ (i : Nat) (x : Hd), l[i]? = some x → (two l)[i * 2]? = some (.string x.a) ∧ (two l)[i * 2 + 1]? = some (.slice x.p x.l x.c) := by
  induction l with
  | nil => intro i x h; simp at h
  | cons y l ih =>
    intro i x h
    cases i with
    | zero => simp at h; subst h; simp [two]
    | succ i =>
      have := ih i x (by simpa using h)
      have e1 : (i + 1) * 2 = i * 2 + 1 + 1 := by omega
      have e2 : two (y :: l) = .string y.a :: .slice y.p y.l y.c :: two l := by simp [two]
      rw [e1, e2]; simpa using this
theorem two_snoc (l : List Hd) (x : Hd) : two l ++ [.string x.a, .slice x.p x.l x.c] = two (l ++ [x]) := by simp [two]

/-- The parts that have been gathered so far in a slice of the call's own. -/
def AccIn (w : World) (base : Nat) (e : TypeId) (v : Value) (acc : List Tree) : Prop :=
  ∃ ab : List Hd, ab.length = acc.length ∧ w.ownsRow base e 2 v acc.length (two ab) ∧
    ∀ (i : Nat) (p : Tree) (x : Hd), acc[i]? = some p → ab[i]? = some x → TIn w (fun b => base ≤ b ∧ v.ownBlock ≠ some b) p x

theorem AccIn.nil (w : World) (base : Nat) (e : TypeId) : AccIn w base e (.slice none 0 0) [] :=
  ⟨[], rfl, World.ownsRow_nil _ _ _ _, fun i p x h => by simp at h⟩

theorem Below.grownBy {B : Nat} {w w' : World} (h : Below B w w') {n : Option Nat} (hB : w.heap.size ≤ B) : w.grownBy w' n :=
  ⟨h.os, h.tape, h.output, h.size, fun k hk _ => h.block k (by omega)⟩

theorem AccIn.under {w w' : World} {base : Nat} {e : TypeId} {v : Value} {acc : List Tree} (h : AccIn w base e v acc) (hb : Below w.heap.size w w') : AccIn w' base e v acc := by
  obtain ⟨ab, hl, hown, ht⟩ := h
  refine ⟨ab, hl, ?_, fun i p x hp hx => (ht i p x hp hx).under hb fun _ _ hk => hk⟩
  exact hown.kept (row := none) (Below.grownBy hb (Nat.le_refl _)) (by cases v.ownBlock <;> simp)

/-- A block below those of the gathered may be written. -/
theorem AccIn.setCell {w : World} {base : Nat} {e : TypeId} {v : Value} {acc : List Tree} (h : AccIn w base e v acc) {a : Addr} (ha : a.block < base) (u : Value) : AccIn (w.setCell a u) base e v acc := by
  obtain ⟨ab, hl, hown, ht⟩ := h
  refine ⟨ab, hl, ownsRow_setCell_below hown ha u, fun i p x hp hx => (ht i p x hp hx).keep (fun k hk _ => Below.heap_setCell _ _ _ _ (by have := hk.1; omega)) fun _ hk _ => hk⟩

/-- One more part has been gathered: behind the law on append. -/
theorem AccIn.snoc {w w' : World} {base : Nat} {e : TypeId} {v v' : Value} {acc : List Tree} {ab : List Hd} {p : Tree} {a : Hd}
    (hl : ab.length = acc.length) (ht : ∀ (i : Nat) (p : Tree) (x : Hd), acc[i]? = some p → ab[i]? = some x → TIn w (fun b => base ≤ b ∧ v.ownBlock ≠ some b) p x)
    (hn : TIn w (fun b => base ≤ b ∧ v.ownBlock ≠ some b) p a)
    (hown : w'.ownsRow base e 2 v' (acc.length + 1) (two ab ++ [.string a.a, .slice a.p a.l a.c])) (hg : w.grownBy w' v.ownBlock) (hw : v'.ownBlock = v.ownBlock ∨ v'.ownBlock = some w.heap.size) : AccIn w' base e v' (acc ++ [p]) := by
  have hk : ∀ {q : Tree} {x : Hd}, TIn w (fun b => base ≤ b ∧ v.ownBlock ≠ some b) q x → TIn w' (fun b => base ≤ b ∧ v'.ownBlock ≠ some b) q x := by
    intro q x h
    refine h.keep (fun k hk hlt => hg.block k hlt fun e => hk.2 e.symm) fun k hk hlt => ⟨hk.1, ?_⟩
    rcases hw with hw | hw
    · rw [hw]; exact hk.2
    · rw [hw]; intro e; have := Option.some.inj e; omega
  refine ⟨ab ++ [a], by simp [hl], ?_, fun i q x hq hx => ?_⟩
  · rw [← two_snoc]; simpa using hown
  · by_cases hi : i < acc.length
    · rw [List.getElem?_append_left hi] at hq
      rw [List.getElem?_append_left (by omega)] at hx
      exact hk (ht i q x hq hx)
    · have hi2 : i = acc.length := by
        have := (List.getElem?_eq_some_iff.1 hq).1
        simp at this; omega
      subst hi2
      simp at hq
      rw [← hl] at hx; simp at hx
      subst hq; subst hx
      exact hk hn

/-- What has been gathered is a tree. -/
theorem AccIn.node {w : World} {base : Nat} {e : TypeId} {p : Option Addr} {l c : Nat} {acc : List Tree} (h : AccIn w base e (.slice p l c) acc) (h0 : 0 < acc.length) : TIn w (fun b => base ≤ b) (.node acc) ⟨ByteArray.empty, p, l, c⟩ := by
  obtain ⟨ab, hl, hown, ht⟩ := h
  rcases hown.2 with ⟨_, hn⟩ | ⟨g, cap, cur, hv, hbg, hg, hnc, hcm, hcs, htake⟩
  · omega
  obtain ⟨rfl, rfl, rfl⟩ : p = some ⟨g, 0, none⟩ ∧ l = acc.length ∧ c = cap := by simpa using hv
  have hc : ∀ j u, (two ab)[j]? = some u → w.cell? ((⟨g, 0, none⟩ : Addr).add j) = some u := hown.cells (g := g) rfl
  have hadd : ∀ j, (⟨g, 0, none⟩ : Addr).add j = ⟨g, j, none⟩ := by intro j; unfold Addr.add; split <;> simp_all
  have hx : ∀ i, i < acc.length → ∃ x, ab[i]? = some x := fun i hi => ⟨ab[i]'(by omega), List.getElem?_eq_getElem (by omega)⟩
  refine .node acc g c (fun i => (ab[i]?).getD default) h0 hnc hcm hbg (fun i hi => ?_) (fun i hi => ?_) (fun i p hp => ?_)
  · obtain ⟨x, hx⟩ := hx i hi
    have := hc (i * 2) _ (two_get ab i x hx).1
    rw [hadd] at this; rw [hx]; exact this
  · obtain ⟨x, hx⟩ := hx i hi
    have := hc (i * 2 + 1) _ (two_get ab i x hx).2
    rw [hadd] at this; rw [hx]; exact this
  · obtain ⟨x, hx⟩ := hx i (List.getElem?_eq_some_iff.1 hp).1
    have := ht i p x hp hx
    rw [hx]; exact this.keep (fun _ _ _ => rfl) fun k hk _ => hk.1

/-- The cells of a block of two cells; that they may be written; the block behind a store. -/
theorem cells_of_pair {w : World} {b : Nat} {x y : Value} {t : TypeId} (h : w.heap[b]? = some (.cells #[x, y] t (0, 0))) :
    w.cell? ⟨b, 0, none⟩ = some x ∧ w.cell? ⟨b, 1, none⟩ = some y ∧ w.frozen? ⟨b, 0, none⟩ = false ∧ w.frozen? ⟨b, 1, none⟩ = false := by
  simp [World.cell?, World.frozen?, h]
theorem pair_setCell0 {w : World} {b : Nat} {x y u : Value} {t : TypeId} (h : w.heap[b]? = some (.cells #[x, y] t (0, 0))) : (w.setCell ⟨b, 0, none⟩ u).heap[b]? = some (.cells #[u, y] t (0, 0)) := by
  have hlt := lt_of_block h
  have h' : w.heap[b] = .cells #[x, y] t (0, 0) := by simpa [Array.getElem?_eq_getElem hlt] using h
  show (w.heap.modify b _)[b]? = _
  rw [Array.getElem?_eq_getElem (by simpa using hlt), Array.getElem_modify_self, h']
  rfl
theorem pair_setCell1 {w : World} {b : Nat} {x y u : Value} {t : TypeId} (h : w.heap[b]? = some (.cells #[x, y] t (0, 0))) : (w.setCell ⟨b, 1, none⟩ u).heap[b]? = some (.cells #[x, u] t (0, 0)) := by
  have hlt := lt_of_block h
  have h' : w.heap[b] = .cells #[x, y] t (0, 0) := by simpa [Array.getElem?_eq_getElem hlt] using h
  show (w.heap.modify b _)[b]? = _
  rw [Array.getElem?_eq_getElem (by simpa using hlt), Array.getElem_modify_self, h']
  rfl

/-- The same behind a new block. -/
theorem pair_alloc {w : World} {b : Nat} {x y : Value} {t : TypeId} (h : w.heap[b]? = some (.cells #[x, y] t (0, 0))) (o : Obj) : (w.alloc o).heap[b]? = some (.cells #[x, y] t (0, 0)) :=
  (heap_alloc_old w o (lt_of_block h)).trans h
theorem block_below {w w' : World} {B b : Nat} {o : Obj} (h : w.heap[b]? = some o) (hb : Below B w w') (hB : b < B) : w'.heap[b]? = some o := (hb.block b hB).trans h
theorem block_grown {w w' : World} {r : Option Nat} {b : Nat} {o : Obj} (h : w.heap[b]? = some o) (hg : w.grownBy w' r) (hr : r ≠ some b) : w'.heap[b]? = some o := (hg.block b (lt_of_block h) fun e => hr e.symm).trans h

theorem ownsRow_under {w w' : World} {base : Nat} {e : TypeId} {size : Nat} {v : Value} {n : Nat} {xs : List Value} (h : w.ownsRow base e size v n xs) (hb : Below w.heap.size w w') : w'.ownsRow base e size v n xs :=
  h.kept (row := none) (Below.grownBy hb (Nat.le_refl _)) (by cases v.ownBlock <;> simp)
/-- The cells of a block of two cells that has just been made. -/
theorem cells_new2 (w : World) (x y : Value) (t : TypeId) (n : Nat) (hn : n = w.heap.size) : ∀ j u, [x, y][j]? = some u → (w.alloc (.cells #[x, y] t)).cell? ((⟨n, 0, none⟩ : Addr).add j) = some u := by
  subst hn
  intro j u h
  have hc := cells_of_pair (heap_alloc_new w (.cells #[x, y] t))
  match j, h with
  | 0, h => simp at h; subst h; exact hc.1
  | 1, h => simp at h; subst h; exact hc.2.1
/-- One more part: in one word, with the world in which the append is run two new blocks behind that in which the part was read. -/
theorem AccIn.more {w1 wa w' : World} {base : Nat} {e : TypeId} {v v' : Value} {acc : List Tree} {ab : List Hd} {p : Tree} {a : Hd} {wr : World}
    (hl : ab.length = acc.length) (ht : ∀ (i : Nat) (p : Tree) (x : Hd), acc[i]? = some p → ab[i]? = some x → TIn wr (fun b => base ≤ b ∧ v.ownBlock ≠ some b) p x)
    (howns : wr.ownsRow base e 2 v acc.length (two ab)) (hbase : base ≤ wr.heap.size)
    (hb1 : Below wr.heap.size wr w1) (hn : TIn w1 (fun b => wr.heap.size ≤ b) p a) (hba : Below w1.heap.size w1 wa)
    (hown : w'.ownsRow base e 2 v' (acc.length + 1) (two ab ++ [.string a.a, .slice a.p a.l a.c])) (hg : wa.grownBy w' v.ownBlock) (hw : v'.ownBlock = v.ownBlock ∨ v'.ownBlock = some wa.heap.size) : AccIn w' base e v' (acc ++ [p]) := by
  have hlt := howns.lt
  have h1 := hb1.size
  refine AccIn.snoc (w := wa) hl (fun i q x hq hx => ?_) ?_ hown hg hw
  · exact ((ht i q x hq hx).under hb1 fun _ _ hk => hk).under hba fun _ _ hk => hk
  · refine (hn.under hba fun _ _ hk => hk).keep (fun _ _ _ => rfl) fun k hk _ => ⟨by omega, fun e => ?_⟩
    have := hlt k e; omega

theorem heap_new (w : World) (o : Obj) (n : Nat) (h : n = w.heap.size) : (w.alloc o).heap[n]? = some o := h ▸ heap_alloc_new w o
theorem AccIn.len {w : World} {base : Nat} {e : TypeId} {p : Option Addr} {l c : Nat} {acc : List Tree} (h : AccIn w base e (.slice p l c) acc) : l = acc.length := by
  obtain ⟨ab, hl, hown, ht⟩ := h
  rcases hown.2 with ⟨hv, hn⟩ | ⟨g, cap, cur, hv, _⟩
  · simp at hv; omega
  · simp at hv; exact hv.2.1
theorem cells_new1 (w : World) (x : Value) (t : TypeId) (n : Nat) (hn : n = w.heap.size) : ∀ j u, [x][j]? = some u → (w.alloc (.cells #[x] t)).cell? ((⟨n, 0, none⟩ : Addr).add j) = some u := by
  subst hn
  intro j u h
  match j, h with
  | 0, h => simp at h; subst h; exact cell_of_one (heap_alloc_new w (.cells #[x] t))

end Go.Proofs.YtgogoekfidbpdaaDoor

namespace Go.Proofs.YtgogoekfidbpdaaDoor
open Go.RowKit

mutual
/-- A tree of atoms and parts as they are read. -/
def Tree.wk : Tree → Prop
  | .atom s => s.size ≠ 0 ∧ ∀ b ∈ s.data.toList, atomB b.toNat = true
  | .node ps => ps ≠ [] ∧ Tree.wks ps
def Tree.wks : List Tree → Prop
  | [] => True
  | p :: ps => p.wk ∧ Tree.wks ps
end
mutual
/-- How many parentheses lie within each other, and one. -/
def Tree.dp : Tree → Nat
  | .atom _ => 1
  | .node ps => 1 + Tree.dps ps
def Tree.dps : List Tree → Nat
  | [] => 0
  | p :: ps => Nat.max p.dp (Tree.dps ps)
end
theorem wks_mem {ps : List Tree} (h : Tree.wks ps) : ∀ p ∈ ps, p.wk := by
  induction ps with
  | nil => intro p hp; simp at hp
  | cons q ps ih =>
    rw [Tree.wks] at h
    intro p hp
    rcases List.mem_cons.1 hp with rfl | hp
    · exact h.1
    · exact ih h.2 p hp
theorem wks_of {ps : List Tree} (h : ∀ p ∈ ps, p.wk) : Tree.wks ps := by
  induction ps with
  | nil => trivial
  | cons q ps ih => exact ⟨h q (List.mem_cons_self ..), ih (fun p hp => h p (List.mem_cons_of_mem _ hp))⟩
theorem dps_mem {ps : List Tree} {k : Nat} : Tree.dps ps ≤ k ↔ ∀ p ∈ ps, p.dp ≤ k := by
  induction ps with
  | nil => simp [Tree.dps]
  | cons q ps ih =>
    rw [Tree.dps]
    constructor
    · intro h p hp
      have h1 : q.dp ≤ k := Nat.le_trans (Nat.le_max_left _ _) h
      have h2 : Tree.dps ps ≤ k := Nat.le_trans (Nat.le_max_right _ _) h
      rcases List.mem_cons.1 hp with rfl | hp
      · exact h1
      · exact ih.1 h2 p hp
    · intro h
      exact Nat.max_le.2 ⟨h q (List.mem_cons_self ..), ih.2 (fun p hp => h p (List.mem_cons_of_mem _ hp))⟩

theorem byte_drop {s : ByteArray} {i : Nat} {b : UInt8} {r : List UInt8} (h : s.data.toList.drop i = b :: r) : i < s.size ∧ byteAt s i = b.toNat ∧ s.data.toList.drop (i + 1) = r := by
  have hi : i < s.data.toList.length := by
    rcases Nat.lt_or_ge i s.data.toList.length with hc | hc
    · exact hc
    · rw [List.drop_of_length_le hc] at h; simp at h
  rw [List.drop_eq_getElem_cons hi] at h
  simp only [List.cons.injEq] at h
  have hs : i < s.size := by simpa using hi
  refine ⟨hs, ?_, h.2⟩
  rw [byteAt_lt s i hs]
  congr 1
  rw [← h.1]; rfl
/-- What stands behind an atom. -/
def stopB (r : List UInt8) : Prop := ∀ b q, r = b :: q → atomB b.toNat = false
theorem run_back {s : ByteArray} : ∀ (xs : List UInt8) (i : Nat) (r : List UInt8), (∀ b ∈ xs, atomB b.toNat = true) → stopB r → s.data.toList.drop i = xs ++ r → runEnd s i = i + xs.length
  | [], i, r, _, hr, h => by
    refine runEnd_stop s i ?_
    rintro ⟨h1, h2⟩
    have hd := List.drop_eq_getElem_cons (l := s.data.toList) (i := i) (by simpa using h1)
    rw [h, List.nil_append] at hd
    have := hr _ _ hd
    have hb := byte_drop (s := s) (i := i) (by rw [h, List.nil_append]; exact hd)
    rw [hb.2.1, this] at h2
    cases h2
  | x :: xs, i, r, hx, hr, h => by
    have hb := byte_drop (s := s) (i := i) (b := x) (r := xs ++ r) (by rw [h]; rfl)
    rw [runEnd_go s i hb.1 (by rw [hb.2.1]; exact hx x (List.mem_cons_self ..)), run_back xs (i + 1) r (fun b hb => hx b (List.mem_cons_of_mem _ hb)) hr hb.2.2, List.length_cons]
    omega
theorem extract_back {s a : ByteArray} {i : Nat} {r : List UInt8} (h : s.data.toList.drop i = a.data.toList ++ r) : s.extract i (i + a.data.toList.length) = a := by
  have h1 : (s.extract i (i + a.data.toList.length)).data.toList = a.data.toList := by
    rw [sl_extract, sl, h, show i + a.data.toList.length - i = a.data.toList.length by omega, List.take_left]
  cases a with
  | mk d =>
    generalize s.extract i (i + (ByteArray.mk d).data.toList.length) = x at h1
    cases x with
    | mk e => simp at h1; rw [h1]
theorem rdL_back (s : ByteArray) (f : Nat → Option (Tree × Nat)) (rest : List UInt8) : ∀ (ps : List Tree) (p : Tree) (n i : Nat) (acc : List Tree), ps.length < n →
    (∀ q ∈ p :: ps, ∀ j r, s.data.toList.drop j = q.write ++ r → stopB r → f j = some (q, j + q.write.length)) → s.data.toList.drop (i + 1) = p.write ++ (Tree.writes ps ++ 41 :: rest) →
    rdL s f n i acc = some (.node (acc ++ p :: ps), i + 1 + p.write.length + (Tree.writes ps).length + 1)
  | [], p, n + 1, i, acc, _, hf, h => by
    have h1 := hf p (List.mem_cons_self ..) (i + 1) _ h (by intro b q e; simp [Tree.writes] at e; rw [← e.1]; rfl)
    have h2 : s.data.toList.drop (i + 1 + p.write.length) = 41 :: rest := by rw [← List.drop_drop, h, List.drop_left]; rfl
    have hb := byte_drop h2
    rw [rdL, h1]
    simp only
    rw [if_pos hb.1, if_pos (by rw [hb.2.1]; rfl)]
    rfl
  | q :: qs, p, n + 1, i, acc, hn, hf, h => by
    have h1 := hf p (List.mem_cons_self ..) (i + 1) _ h (by intro b r e; simp [Tree.writes] at e; rw [← e.1]; rfl)
    have h2 : s.data.toList.drop (i + 1 + p.write.length) = 32 :: (q.write ++ (Tree.writes qs ++ 41 :: rest)) := by rw [← List.drop_drop, h, List.drop_left, Tree.writes]; simp
    have hb := byte_drop h2
    have ih := rdL_back s f rest qs q n (i + 1 + p.write.length) (acc ++ [p]) (by simp at hn; omega) (fun x hx => hf x (List.mem_cons_of_mem _ hx)) hb.2.2
    rw [rdL, h1]
    simp only
    rw [if_pos hb.1, if_neg (by rw [hb.2.1]; decide), if_pos (by rw [hb.2.1]; rfl), ih]
    simp only [Tree.writes, List.length_cons, List.length_append, List.append_assoc, List.singleton_append, Option.some.injEq, Prod.mk.injEq, true_and]
    omega
theorem writes_len (ps : List Tree) : ps.length ≤ (Tree.writes ps).length := by
  induction ps with
  | nil => simp
  | cons p ps ih => simp only [Tree.writes, List.length_cons, List.length_append]; omega
theorem rd_back (s : ByteArray) : ∀ (k : Nat) (t : Tree) (i : Nat) (r : List UInt8), t.wk → t.dp ≤ k → s.data.toList.drop i = t.write ++ r → stopB r → rd s k i = some (t, i + t.write.length)
  | 0, t, _, _, _, hd, _, _ => by cases t <;> simp [Tree.dp] at hd
  | k + 1, .atom a, i, r, hw, _, h, hr => by
    rw [Tree.wk] at hw
    rw [Tree.write] at h ⊢
    have h1 := run_back a.data.toList i r hw.2 hr h
    have hne : a.data.toList.length ≠ 0 := by simpa using hw.1
    obtain ⟨x, xs, hx⟩ : ∃ x xs, a.data.toList = x :: xs := by
      cases hc : a.data.toList with
      | nil => rw [hc] at hne; simp at hne
      | cons x xs => exact ⟨x, xs, rfl⟩
    have hb := byte_drop (s := s) (i := i) (b := x) (r := xs ++ r) (by rw [h, hx]; rfl)
    have h40 : byteAt s i ≠ 40 := by
      intro e
      have := hw.2 x (by rw [hx]; exact List.mem_cons_self ..)
      rw [← hb.2.1, e] at this
      cases this
    rw [rd_some_atom (by omega) hb.1 h40 (by rw [h1]; omega), h1, extract_back h]
  | k + 1, .node [], _, _, hw, _, _, _ => by rw [Tree.wk] at hw; exact absurd rfl hw.1
  | k + 1, .node (p :: ps), i, r, hw, hd, h, hr => by
    rw [Tree.wk] at hw
    rw [Tree.dp] at hd
    have hm := wks_mem hw.2
    have hdm := dps_mem.1 (show Tree.dps (p :: ps) ≤ k by omega)
    rw [Tree.write] at h
    have hb := byte_drop (s := s) (i := i) (b := 40) (r := p.write ++ (Tree.writes ps ++ 41 :: r)) (by rw [h]; simp)
    have hl : (s.data.toList.drop (i + 1)).length = (p.write ++ (Tree.writes ps ++ 41 :: r)).length := by rw [hb.2.2]
    have h2 := writes_len ps
    have hn : ps.length < s.size + 1 := by simp at hl; omega
    rw [rd_paren hb.1 (by rw [hb.2.1]; rfl), rdL_back s (rd s k) r ps p (s.size + 1) i [] hn (fun q hq j r' h1 h2 => rd_back s k q j r' (hm q hq) (hdm q hq) h1 h2) hb.2.2]
    simp only [List.nil_append, Tree.write, List.length_cons, List.length_append, List.length_nil, Option.some.injEq, Prod.mk.injEq, true_and]
    omega
theorem parse_back {s : ByteArray} {t : Tree} (hs : s.data.toList = t.write) (hw : t.wk) (hd : t.dp ≤ 101) (hl : t.write.length ≤ 12000) : parse s = some t := by
  have hz : s.size = t.write.length := by rw [← hs]; simp
  have h := rd_back s 101 t 0 [] hw hd (by rw [List.drop_zero, hs, List.append_nil]) (by intro b q e; cases e)
  unfold parse
  rw [if_pos (by omega), h]
  simp only
  rw [if_pos (by omega)]

/-- What is read is such a tree. -/
theorem runF_all (s : ByteArray) : ∀ (n i : Nat), ∀ j, i ≤ j → j < runF s n i → atomB (byteAt s j) = true
  | 0, i, j, h1, h2 => by rw [runF] at h2; omega
  | n + 1, i, j, h1, h2 => by
    rw [runF] at h2
    split at h2
    · rename_i hc
      by_cases e : j = i
      · rw [e]; exact hc.2
      · exact runF_all s n (i + 1) j (by omega) h2
    · omega
theorem rdL_wk (s : ByteArray) (f : Nat → Option (Tree × Nat)) (k : Nat) (hf : ∀ i p e, f i = some (p, e) → p.wk ∧ p.dp ≤ k) :
    ∀ n i acc p e, (∀ q ∈ acc, q.wk ∧ q.dp ≤ k) → rdL s f n i acc = some (p, e) → p.wk ∧ p.dp ≤ k + 1 := by
  intro n; induction n with
  | zero => intro i acc p e _ h; simp [rdL] at h
  | succ n ih =>
    intro i acc p e ha h
    rw [rdL] at h
    cases hr : f (i + 1) with
    | none => rw [hr] at h; simp at h
    | some x =>
      obtain ⟨p1, e1⟩ := x
      have hb := hf _ _ _ hr
      have ha2 : ∀ q ∈ acc ++ [p1], q.wk ∧ q.dp ≤ k := by
        intro q hq
        rcases List.mem_append.1 hq with hq | hq
        · exact ha q hq
        · simp at hq; subst hq; exact hb
      rw [hr] at h; simp only at h
      split at h
      · split at h
        · simp only [Option.some.injEq, Prod.mk.injEq] at h
          obtain ⟨rfl, _⟩ := h
          rw [Tree.wk, Tree.dp]
          exact ⟨⟨by simp, wks_of fun q hq => (ha2 q hq).1⟩, by have := dps_mem.2 (fun q hq => (ha2 q hq).2); omega⟩
        · split at h
          · exact ih _ _ _ _ ha2 h
          · simp at h
      · simp at h
theorem rd_wk (s : ByteArray) : ∀ k i p e, rd s k i = some (p, e) → p.wk ∧ p.dp ≤ k := by
  intro k; induction k with
  | zero => intro i p e h; simp [rd] at h
  | succ k ih =>
    intro i p e h
    rw [rd] at h
    split at h
    · rename_i hlt
      split at h
      · exact rdL_wk s _ k ih _ _ _ _ _ (fun q hq => by simp at hq) h
      · split at h
        · simp at h
        · rename_i hne
          simp only [Option.some.injEq, Prod.mk.injEq] at h
          obtain ⟨rfl, rfl⟩ := h
          have hge := runEnd_ge s i
          have hle := runEnd_le s i (by omega)
          rw [Tree.wk, Tree.dp]
          refine ⟨⟨by rw [ByteArray.size_extract]; omega, fun b hb => ?_⟩, by omega⟩
          rw [sl_extract, sl] at hb
          obtain ⟨j, hj, rfl⟩ := List.getElem_of_mem hb
          simp at hj
          have h1 := runF_all s _ i (i + j) (by omega) (show i + j < runEnd s i by omega)
          rw [byteAt_lt s (i + j) (by omega)] at h1
          rw [List.getElem_take, List.getElem_drop]
          exact h1
    · simp at h
theorem parse_wk {s : ByteArray} {t : Tree} (h : parse s = some t) : t.wk ∧ t.dp ≤ 101 ∧ t.write.length ≤ 12000 := by
  have hw := parse_write h
  unfold parse at h
  split at h
  · rename_i hs
    cases hr : rd s 101 0 with
    | none => rw [hr] at h; simp at h
    | some x =>
      obtain ⟨p, e⟩ := x
      rw [hr] at h; simp only at h
      split at h
      · simp at h; subst h
        have := rd_wk s _ _ _ _ hr
        refine ⟨this.1, this.2, ?_⟩
        rw [← hw]; simpa using hs
      · simp at h
  · simp at h
theorem part_wk {q : Tree} {ps : List Tree} (h : (Tree.node ps).wk ∧ (Tree.node ps).dp ≤ 101) (hq : q ∈ ps) : q.wk ∧ q.dp ≤ 101 := by
  rw [Tree.wk, Tree.dp] at h
  have := dps_mem.1 (Nat.le_refl (Tree.dps ps)) q hq
  exact ⟨wks_mem h.1.2 q hq, by omega⟩
end Go.Proofs.YtgogoekfidbpdaaDoor

namespace Go.Proofs.YtgogoekfidbpdaaDoor
open Go.RowKit

/-- A slice of one-cell values. -/
def Vals (w : World) (p : Option Addr) (l : List Value) : Prop := ∀ i v, l[i]? = some v → ∃ b o, p = some ⟨b, o, none⟩ ∧ w.cell? ⟨b, o + i, none⟩ = some v
theorem Vals.kept {w w' : World} {p : Option Addr} {l : List Value} (h : Vals w p l) (hk : Kept w w') : Vals w' p l := fun i v hv =>
  let ⟨b, o, hp, hc⟩ := h i v hv
  ⟨b, o, hp, hk.cell hc⟩
theorem vals_own {w : World} {base : Nat} {e : TypeId} {g n cap : Nat} {l : List Value} (h : w.ownsRow base e 1 (.slice (some ⟨g, 0, none⟩) n cap) n l) : Vals w (some ⟨g, 0, none⟩) l := by
  intro i v hv
  have hc := h.cells (g := g) rfl i v hv
  refine ⟨g, 0, rfl, ?_⟩
  have hadd : (⟨g, 0, none⟩ : Addr).add i = ⟨g, 0 + i, none⟩ := by unfold Addr.add; split <;> simp_all
  rw [← hadd]; exact hc
theorem vals_one {w : World} {b : Nat} {x : Value} {t : TypeId} (h : w.heap[b]? = some (.cells #[x] t (0, 0))) : Vals w (some ⟨b, 0, none⟩) [x] := by
  intro i v hv
  match i, hv with
  | 0, hv => simp at hv; subst hv; exact ⟨b, 0, rfl, cell_of_one h⟩
theorem vals_two {w : World} {b : Nat} {x y : Value} {t : TypeId} (h : w.heap[b]? = some (.cells #[x, y] t (0, 0))) : Vals w (some ⟨b, 0, none⟩) [x, y] := by
  intro i v hv
  match i, hv with
  | 0, hv => simp at hv; subst hv; exact ⟨b, 0, rfl, (cells_of_pair h).1⟩
  | 1, hv => simp at hv; subst hv; exact ⟨b, 0, rfl, (cells_of_pair h).2.1⟩
theorem vals_any {w : World} {base : Nat} {e : TypeId} {p : Option Addr} {n c : Nat} {xs : List Value} (h : w.ownsRow base e 1 (.slice p n c) n xs) : Vals w p xs := by
  rcases h.2 with ⟨_, hn⟩ | ⟨g, cap, cur, hv, _⟩
  · have : xs = [] := List.eq_nil_of_length_eq_zero (by have := h.1; omega)
    subst this; intro i v hv; simp at hv
  · obtain ⟨rfl, _, rfl⟩ : p = some ⟨g, 0, none⟩ ∧ True ∧ c = cap := by simp at hv; exact ⟨hv.1, trivial, hv.2⟩
    exact vals_own h

theorem own_base {w : World} {base base' size n : Nat} {e : TypeId} {v : Value} {xs : List Value} (h : w.ownsRow base e size v n xs) (hb : base' ≤ base) : w.ownsRow base' e size v n xs :=
  ⟨h.1, h.2.elim Or.inl (fun ⟨g, cap, cur, hv, hg, r⟩ => Or.inr ⟨g, cap, cur, hv, Nat.le_trans hb hg, r⟩)⟩
end Go.Proofs.YtgogoekfidbpdaaDoor

namespace Go.Proofs.YtgogoekfidbpdaaDoor
open Go.RowKit

/-- A name: a small letter, and then at most three digits. -/
def nameB : List UInt8 → Bool
  | [] => false
  | c :: l => decide (97 ≤ c.toNat ∧ c.toNat ≤ 122 ∧ l.length ≤ 3) && l.all fun d => decide (48 ≤ d.toNat ∧ d.toNat ≤ 57)
theorem nameB_ne {s : List UInt8} (h : nameB s = true) : s ≠ [] := by intro e; subst e; simp [nameB] at h
/-- Is a text among names? -/
def hasB (l : List ByteArray) (s : List UInt8) : Bool := (l.map (·.toList)).contains s
theorem eq_t {a : ByteArray} {l : List UInt8} (h : (a.toList == l) = true) : a.toList = l := by simpa using h
theorem toList_get (s : ByteArray) (i : Nat) (h : i < s.size) : s.toList[i]? = some s[i] := by
  rw [Go.ByteArray.toList_eq, Array.getElem?_toList]
  exact Array.getElem?_eq_getElem (by simpa using h)
theorem toList_len (s : ByteArray) : s.toList.length = s.size := by rw [Go.ByteArray.toList_eq]; simp
theorem hasB_cons (x : ByteArray) (l : List ByteArray) (s : List UInt8) : hasB (x :: l) s = (x.toList == s || hasB l s) := by
  unfold hasB
  rw [List.map_cons, List.contains_cons]
  congr 1
  rw [Bool.eq_iff_iff, beq_iff_eq, beq_iff_eq]; exact ⟨Eq.symm, Eq.symm⟩
/-- Each one once, in the order in which it comes first. -/
def dedB (acc : List ByteArray) : List ByteArray → List ByteArray
  | [] => acc
  | x :: l => if hasB acc x.toList = true then dedB acc l else dedB (acc ++ [x]) l
theorem dedB_append : ∀ (a b acc : List ByteArray), dedB acc (a ++ b) = dedB (dedB acc a) b
  | [], b, acc => rfl
  | x :: a, b, acc => by
    rw [List.cons_append, dedB, dedB]
    split <;> exact dedB_append a b _
theorem dedB_le : ∀ (F L : List ByteArray), (dedB L F).length ≤ L.length + F.length
  | [], L => by simp [dedB]
  | x :: F, L => by
    rw [dedB]
    split
    · have := dedB_le F L; simp; omega
    · have := dedB_le F (L ++ [x]); simp at this ⊢; omega
end Go.Proofs.YtgogoekfidbpdaaDoor

namespace Go.Proofs.YtgogoekfidbpdaaDoor
open Go.RowKit

/-- A list's row at an index, behind a drop. -/
theorem drop_at {α : Type} {l : List α} {i : Nat} {x : α} (h : l[i]? = some x) : l.drop i = x :: l.drop (i + 1) := by
  have e := List.getElem?_eq_some_iff.1 h
  rw [List.drop_eq_getElem_cons e.1, e.2]
/-- Pointers to blocks. -/
def ptrs (A : Nat → Nat) (n : Nat) : List Value := (List.range n).map fun i => Value.pointer (some ⟨A i, 0, none⟩)
theorem ptrs_length (A : Nat → Nat) (n : Nat) : (ptrs A n).length = n := by simp [ptrs]
theorem ptrs_get (A : Nat → Nat) {n i : Nat} (h : i < n) : (ptrs A n)[i]? = some (.pointer (some ⟨A i, 0, none⟩)) := by simp [ptrs, h]
theorem ptrs_snoc (A : Nat → Nat) (n a : Nat) : ptrs (fun i => if i = n then a else A i) (n + 1) = ptrs A n ++ [.pointer (some ⟨a, 0, none⟩)] := by
  unfold ptrs
  rw [List.range_succ, List.map_append]
  congr 1
  · apply List.map_congr_left
    intro i hi
    have hin : i < n := by simpa using hi
    show Value.pointer (some ⟨if i = n then a else A i, 0, none⟩) = _
    rw [if_neg (by omega)]
  · simp
/-- A row of one-cell values in a block of a set. -/
def RIn (w : World) (S : Nat → Prop) (p : Option Addr) (l : List Value) : Prop := ∀ i v, l[i]? = some v → ∃ g, p = some ⟨g, 0, none⟩ ∧ S g ∧ w.cell? ⟨g, i, none⟩ = some v
theorem RIn.keep {w w' : World} {S S' : Nat → Prop} {p : Option Addr} {l : List Value} (h : RIn w S p l) (hb : ∀ k, S k → k < w.heap.size → w'.heap[k]? = w.heap[k]?) (hS : ∀ k, S k → k < w.heap.size → S' k) : RIn w' S' p l := fun i v hv =>
  let ⟨g, hp, hg, hc⟩ := h i v hv
  have hl := World.block_lt_of_cell? w _ hc
  ⟨g, hp, hS g hg hl, (World.cell?_of_block (w := w) (a := ⟨g, i, none⟩) (hb g hg hl)).trans hc⟩

theorem own_cap {w : World} {base n c size : Nat} {e : TypeId} {p : Option Addr} {xs : List Value} (h : w.ownsRow base e size (.slice p n c) n xs) : n ≤ c := by
  rcases h.2 with ⟨_, hn⟩ | ⟨g, cap, cur, hv, _, _, hnc, _⟩
  · omega
  · obtain ⟨_, rfl⟩ : p = some ⟨g, 0, none⟩ ∧ c = cap := by simpa using hv
    exact hnc
end Go.Proofs.YtgogoekfidbpdaaDoor

namespace Go.Proofs.YtgogoekfidbpdaaDoor
open Go.RowKit

/-- What a function leaves that returns a text, or none. -/
def txV (o : Option ByteArray) : Value := .tuple #[.string (o.getD ByteArray.empty), .bool o.isSome]
def TxPost (o : Option ByteArray) (w : World) (e : Ending) (w' : World) : Prop := e = .returned (txV o) ∧ Below w.heap.size w w'
theorem txPost_none {w w' : World} (h : Below w.heap.size w w') : TxPost none w (.returned (.tuple #[.string ByteArray.empty, .bool false])) w' := ⟨rfl, h⟩
theorem txV_shape (o : Option ByteArray) : ∃ a d, txV o = .tuple #[.string a, .bool d] := ⟨_, _, rfl⟩
end Go.Proofs.YtgogoekfidbpdaaDoor
