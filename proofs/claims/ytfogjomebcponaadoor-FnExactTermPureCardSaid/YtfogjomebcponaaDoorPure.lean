/- Plain functions on texts and trees: how a text is read, and what a tree that is read has. Nothing here speaks of a program. -/
import Derived.WalkKit
namespace Go.Proofs.YtfogjomebcponaaDoor
open Go.RowKit

/-- A byte of an atom. -/
def atomB (c : Nat) : Bool := decide ((97 ≤ c ∧ c ≤ 122) ∨ (48 ≤ c ∧ c ≤ 57) ∨ c = 42 ∨ c = 62 ∨ c = 38)
theorem atomB_t {c : Nat} (h : (97 ≤ c ∧ c ≤ 122) ∨ (48 ≤ c ∧ c ≤ 57) ∨ c = 42 ∨ c = 62 ∨ c = 38) : atomB c = true := decide_eq_true h
theorem atomB_f {c : Nat} (h : ¬ ((97 ≤ c ∧ c ≤ 122) ∨ (48 ≤ c ∧ c ≤ 57) ∨ c = 42 ∨ c = 62 ∨ c = 38)) : atomB c = false := decide_eq_false h

/-- A fact kept from the walk. -/
theorem hid {p : Prop} (h : p) : Hid p := h
theorem ret_bool {a b : Bool} (h : a = b) : Ending.returned (.bool a) = .returned (.bool b) := by rw [h]
theorem ret_int {k : IntKind} {a b : Int} (h : a = b) : Ending.returned (.int k a) = .returned (.int k b) := by rw [h]
theorem ret_str {a b : ByteArray} (h : a = b) : Ending.returned (.string a) = .returned (.string b) := by rw [h]

/-- The byte at an index, 0 behind the end. -/
def byteAt (s : ByteArray) (i : Nat) : Nat := if h : i < s.size then (s[i]'h).toNat else 0
theorem byteAt_lt (s : ByteArray) (i : Nat) (h : i < s.size) : byteAt s i = (s[i]'h).toNat := dif_pos h
theorem byteAt_256 (s : ByteArray) (i : Nat) : byteAt s i < 256 := by
  unfold byteAt; split
  · exact UInt8.toNat_lt _
  · omega

/-- Where a run of atom bytes ends, n bytes at most. -/
def runF (s : ByteArray) : Nat → Nat → Nat
  | 0, i => i
  | n + 1, i => if i < s.size ∧ atomB (byteAt s i) = true then runF s n (i + 1) else i
/-- Where the run of atom bytes from i on ends. -/
def runEnd (s : ByteArray) (i : Nat) : Nat := runF s (s.size - i) i

theorem runF_ge (s : ByteArray) : ∀ n i, i ≤ runF s n i := by
  intro n; induction n with
  | zero => intro i; exact Nat.le_refl _
  | succ n ih => intro i; unfold runF; split
                 · have := ih (i + 1); omega
                 · exact Nat.le_refl _
theorem runF_le (s : ByteArray) : ∀ n i, i ≤ s.size → runF s n i ≤ s.size := by
  intro n; induction n with
  | zero => intro i h; exact h
  | succ n ih => intro i h; unfold runF; split
                 · rename_i hc; exact ih (i + 1) hc.1
                 · exact h
theorem runEnd_ge (s : ByteArray) (i : Nat) : i ≤ runEnd s i := runF_ge _ _ _
theorem runEnd_le (s : ByteArray) (i : Nat) (h : i ≤ s.size) : runEnd s i ≤ s.size := runF_le _ _ _ h
theorem runEnd_go (s : ByteArray) (i : Nat) (h : i < s.size) (ha : atomB (byteAt s i) = true) : runEnd s i = runEnd s (i + 1) := by
  unfold runEnd
  have e : s.size - i = (s.size - (i + 1)) + 1 := by omega
  rw [e]; conv => lhs; unfold runF
  rw [if_pos ⟨h, ha⟩]
theorem runEnd_stop (s : ByteArray) (i : Nat) (h : ¬ (i < s.size ∧ atomB (byteAt s i) = true)) : runEnd s i = i := by
  unfold runEnd
  cases hn : s.size - i with
  | zero => rfl
  | succ n => unfold runF; rw [if_neg h]

theorem isEmpty_of (s : ByteArray) (h : s.size = 0) : s.toList.isEmpty = true := by
  rw [Go.ByteArray.toList_eq, List.isEmpty_iff, ← List.length_eq_zero_iff]; simpa using h
theorem isEmpty_not (s : ByteArray) (h : s.size ≠ 0) : s.toList.isEmpty = false := by
  rw [Go.ByteArray.toList_eq, Bool.eq_false_iff]; intro hc
  rw [List.isEmpty_iff, ← List.length_eq_zero_iff] at hc; exact h (by simpa using hc)
theorem extract_empty_t (s : ByteArray) (i : Nat) : (s.extract i i).toList.isEmpty = true := isEmpty_of _ (by simp)
theorem extract_empty_f (s : ByteArray) (i j : Nat) (h : i < j) (hj : j ≤ s.size) : (s.extract i j).toList.isEmpty = false := isEmpty_not _ (by simp [ByteArray.size_extract]; omega)

/-- A text that is read: an atom, or parts in parentheses. -/
inductive Tree where
  | atom (s : ByteArray)
  | node (parts : List Tree)

/-- The parts behind a parenthesis or a blank at an index: each by 'rd', which tells what it reads and where that ends. -/
def rdL (s : ByteArray) (rd : Nat → Option (Tree × Nat)) : Nat → Nat → List Tree → Option (Tree × Nat)
  | 0, _, _ => none
  | n + 1, i, acc => match rd (i + 1) with
    | none => none
    | some (p, e) =>
      if e < s.size then
        if byteAt s e = 41 then some (.node (acc ++ [p]), e + 1)
        else if byteAt s e = 32 then rdL s rd n e (acc ++ [p]) else none
      else none

/-- What is read from an index on, k - 1 parentheses within each other at most. -/
def rd (s : ByteArray) : Nat → Nat → Option (Tree × Nat)
  | 0, _ => none
  | k + 1, i =>
    if i < s.size then
      if byteAt s i = 40 then rdL s (rd s k) (s.size + 1) i []
      else if runEnd s i = i then none else some (.atom (s.extract i (runEnd s i)), runEnd s i)
    else none

/-- What is read ends behind where it begins, and within the text. -/
theorem rdL_bound (s : ByteArray) (f : Nat → Option (Tree × Nat)) (hf : ∀ i p e, f i = some (p, e) → i < e ∧ e ≤ s.size) :
    ∀ n i acc p e, rdL s f n i acc = some (p, e) → i < e ∧ e ≤ s.size := by
  intro n; induction n with
  | zero => intro i acc p e h; simp [rdL] at h
  | succ n ih =>
    intro i acc p e h
    rw [rdL] at h
    cases hr : f (i + 1) with
    | none => rw [hr] at h; simp at h
    | some x =>
      obtain ⟨p1, e1⟩ := x
      have hb := hf _ _ _ hr
      rw [hr] at h; simp only at h
      split at h
      · split at h
        · simp only [Option.some.injEq, Prod.mk.injEq] at h; omega
        · split at h
          · have := ih _ _ _ _ h; omega
          · simp at h
      · simp at h
theorem rd_bound (s : ByteArray) : ∀ k i p e, rd s k i = some (p, e) → i < e ∧ e ≤ s.size := by
  intro k; induction k with
  | zero => intro i p e h; simp [rd] at h
  | succ k ih =>
    intro i p e h
    rw [rd] at h
    split at h
    · split at h
      · exact rdL_bound s _ ih _ _ _ _ _ h
      · split at h
        · simp at h
        · simp only [Option.some.injEq, Prod.mk.injEq] at h
          have := runEnd_ge s i; have := runEnd_le s i (by omega); omega
    · simp at h
/-- More rounds do not matter where there are enough. -/
theorem rdL_more (s : ByteArray) (f : Nat → Option (Tree × Nat)) (hf : ∀ i p e, f i = some (p, e) → i < e ∧ e ≤ s.size) :
    ∀ n m i acc, s.size < n + i → s.size < m + i → rdL s f n i acc = rdL s f m i acc := by
  intro n; induction n with
  | zero =>
    intro m i acc hn hm
    cases m with
    | zero => rfl
    | succ m =>
      rw [rdL, rdL]
      cases hr : f (i + 1) with
      | none => rfl
      | some x => have := hf _ _ _ hr; omega
  | succ n ih =>
    intro m i acc hn hm
    cases m with
    | zero =>
      rw [rdL, rdL]
      cases hr : f (i + 1) with
      | none => rfl
      | some x => have := hf _ _ _ hr; omega
    | succ m =>
      rw [rdL, rdL]
      cases hr : f (i + 1) with
      | none => rfl
      | some x =>
        have := hf _ _ _ hr
        simp only
        rw [ih m x.2 _ (by omega) (by omega)]

theorem rd_none_atom {s : ByteArray} {k i : Nat} (hk : 0 < k) (hi : i < s.size) (h40 : byteAt s i ≠ 40) (hn : runEnd s i = i) : rd s k i = none := by
  obtain ⟨k, rfl⟩ : ∃ k', k = k' + 1 := ⟨k - 1, by omega⟩
  rw [rd, if_pos hi, if_neg h40, if_pos hn]
theorem rd_some_atom {s : ByteArray} {k i : Nat} (hk : 0 < k) (hi : i < s.size) (h40 : byteAt s i ≠ 40) (hn : runEnd s i ≠ i) : rd s k i = some (.atom (s.extract i (runEnd s i)), runEnd s i) := by
  obtain ⟨k, rfl⟩ : ∃ k', k = k' + 1 := ⟨k - 1, by omega⟩
  rw [rd, if_pos hi, if_neg h40, if_neg hn]
theorem rd_none_end {s : ByteArray} {k i : Nat} (hi : ¬ i < s.size) : rd s k i = none := by
  cases k with
  | zero => rfl
  | succ k => rw [rd, if_neg hi]
theorem rd_paren {s : ByteArray} {k i : Nat} (hi : i < s.size) (h40 : byteAt s i = 40) : rd s (k + 1) i = rdL s (rd s k) (s.size + 1) i [] := by
  rw [rd, if_pos hi, if_pos h40]

/-- The head of a tree in memory: its atom; its parts' slice. -/
structure Hd where
  a : ByteArray
  p : Option Addr
  l : Nat
  c : Nat
  deriving Inhabited
def Hd.sl (h : Hd) : Value := .slice h.p h.l h.c

/-- How a tree that is read lies in memory: the two cells of its struct (the atom, the parts). 'S': which blocks its parts lie in. -/
inductive TIn (w : World) (S : Nat → Prop) : Tree → Hd → Prop
  | atom (s : ByteArray) (h : s.size ≠ 0) (hm : s.size ≤ maxLen) : TIn w S (.atom s) ⟨s, none, 0, 0⟩
  | node (ps : List Tree) (b cap : Nat) (A : Nat → Hd) (hp : 0 < ps.length) (hl : ps.length ≤ cap) (hc : cap ≤ maxLen) (hS : S b)
      (hA : ∀ i, i < ps.length → w.cell? ⟨b, i * 2, none⟩ = some (.string (A i).a)) (hB : ∀ i, i < ps.length → w.cell? ⟨b, i * 2 + 1, none⟩ = some (.slice (A i).p (A i).l (A i).c))
      (hps : ∀ i p, ps[i]? = some p → TIn w S p (A i)) : TIn w S (.node ps) ⟨ByteArray.empty, some ⟨b, 0, none⟩, ps.length, cap⟩

/-- A tree stays where the blocks that it lies in stay. -/
theorem TIn.keep {w w' : World} {S S' : Nat → Prop} {t : Tree} {a : Hd} (h : TIn w S t a) (hb : ∀ k, S k → k < w.heap.size → w'.heap[k]? = w.heap[k]?) (hS : ∀ k, S k → k < w.heap.size → S' k) : TIn w' S' t a := by
  induction h with
  | atom s h hm => exact .atom s h hm
  | node ps b cap A hp hl hc hS0 hA hB _ ih =>
    have hlt : b < w.heap.size := World.block_lt_of_cell? w _ (hA 0 hp)
    have hk := hb b hS0 hlt
    refine .node ps b cap A hp hl hc (hS b hS0 hlt) (fun i hi => ?_) (fun i hi => ?_) ih
    · exact (World.cell?_of_block (w := w) (a := ⟨b, i * 2, none⟩) hk).trans (hA i hi)
    · exact (World.cell?_of_block (w := w) (a := ⟨b, i * 2 + 1, none⟩) hk).trans (hB i hi)

theorem TIn.under {w w' : World} {S : Nat → Prop} {t : Tree} {a : Hd} (h : TIn w S t a) {B : Nat} (hb : Below B w w') (hS : ∀ k, S k → k < w.heap.size → k < B) : TIn w' S t a :=
  h.keep (fun k hk hl => hb.block k (hS k hk hl)) (fun _ hk _ => hk)

theorem TIn.len {w : World} {S : Nat → Prop} {t : Tree} {h : Hd} (ht : TIn w S t h) : h.l ≤ maxLen := by
  cases ht with
  | atom s _ _ => exact Nat.zero_le _
  | node ps b cap A hp hl hc _ _ _ _ => exact Nat.le_trans hl hc

/-- What is not new stays. -/
def Kept (w w' : World) : Prop := ∀ k, k < w.heap.size → w'.heap[k]? = w.heap[k]?
theorem Kept.refl (w : World) : Kept w w := fun _ _ => rfl
theorem Kept.below {w w1 w2 : World} (h : Kept w w1) {B : Nat} (hb : Below B w1 w2) (hB : w.heap.size ≤ B) : Kept w w2 := fun k hk => (hb.block k (by omega)).trans (h k hk)
theorem Kept.cell {w w' : World} (h : Kept w w') {a : Addr} {v : Value} (hc : w.cell? a = some v) : w'.cell? a = some v := (World.cell?_of_block (w := w) (h _ (World.block_lt_of_cell? w a hc))).trans hc
theorem Kept.of_below {w w' : World} {B : Nat} (hb : Below B w w') (hB : w.heap.size ≤ B) : Kept w w' := (Kept.refl w).below hb hB
theorem Kept.trans {w w1 w2 : World} (h : Kept w w1) (h2 : Kept w1 w2) (hs : w.heap.size ≤ w1.heap.size) : Kept w w2 := fun k hk => (h2 k (by omega)).trans (h k hk)

mutual
/-- How many atoms a tree has. -/
def Tree.size : Tree → Nat
  | .atom _ => 1
  | .node ps => Tree.sizes ps
def Tree.sizes : List Tree → Nat
  | [] => 0
  | p :: ps => p.size + Tree.sizes ps
end
theorem sizes_append (a b : List Tree) : Tree.sizes (a ++ b) = Tree.sizes a + Tree.sizes b := by
  induction a with
  | nil => simp [Tree.sizes]
  | cons x a ih => simp only [List.cons_append, Tree.sizes, ih]; omega
theorem sizes_snoc (ps : List Tree) (i : Nat) (p : Tree) (h : ps[i]? = some p) : Tree.sizes (ps.take (i + 1)) = Tree.sizes (ps.take i) + p.size := by
  rw [List.take_add_one, h, Option.toList_some, sizes_append, Tree.sizes, Tree.sizes]; omega
theorem sizes_take (ps : List Tree) (i : Nat) : Tree.sizes (ps.take i) ≤ Tree.sizes ps := by
  have h := sizes_append (ps.take i) (ps.drop i)
  rw [List.take_append_drop] at h; omega
theorem size_part (ps : List Tree) (i : Nat) (p : Tree) (h : ps[i]? = some p) : p.size ≤ Tree.sizes ps := by
  have := sizes_snoc ps i p h; have := sizes_take ps (i + 1); omega
/-- A tree has no more atoms than its text has bytes. -/
theorem rdL_size (s : ByteArray) (f : Nat → Option (Tree × Nat)) (hf : ∀ i p e, f i = some (p, e) → i + p.size ≤ e) :
    ∀ n i acc p e, rdL s f n i acc = some (p, e) → i + p.size ≤ e + Tree.sizes acc := by
  intro n; induction n with
  | zero => intro i acc p e h; simp [rdL] at h
  | succ n ih =>
    intro i acc p e h
    rw [rdL] at h
    cases hr : f (i + 1) with
    | none => rw [hr] at h; simp at h
    | some x =>
      obtain ⟨p1, e1⟩ := x
      have hb := hf _ _ _ hr
      rw [hr] at h; simp only at h
      split at h
      · split at h
        · simp only [Option.some.injEq, Prod.mk.injEq] at h
          obtain ⟨rfl, rfl⟩ := h
          simp only [Tree.size, sizes_append, Tree.sizes]; omega
        · split at h
          · have := ih _ _ _ _ h
            simp only [sizes_append, Tree.sizes] at this; omega
          · simp at h
      · simp at h
theorem rd_size (s : ByteArray) : ∀ k i p e, rd s k i = some (p, e) → i + p.size ≤ e := by
  intro k; induction k with
  | zero => intro i p e h; simp [rd] at h
  | succ k ih =>
    intro i p e h
    rw [rd] at h
    split at h
    · split at h
      · have := rdL_size s _ ih _ _ _ _ _ h; simpa [Tree.sizes] using this
      · split at h
        · simp at h
        · simp only [Option.some.injEq, Prod.mk.injEq] at h
          obtain ⟨rfl, rfl⟩ := h
          have := runEnd_ge s i; simp only [Tree.size]; omega
    · simp at h

mutual
/-- The weight of a tree: what bounds its atoms and the number of its parts. -/
def Tree.wt : Tree → Nat
  | .atom _ => 1
  | .node ps => 1 + Tree.wts ps
def Tree.wts : List Tree → Nat
  | [] => 0
  | p :: ps => p.wt + Tree.wts ps
end
theorem wt_pos : ∀ t : Tree, 1 ≤ t.wt
  | .atom _ => Nat.le_refl _
  | .node ps => by rw [Tree.wt]; omega
theorem wts_append (a b : List Tree) : Tree.wts (a ++ b) = Tree.wts a + Tree.wts b := by
  induction a with
  | nil => simp [Tree.wts]
  | cons x a ih => simp only [List.cons_append, Tree.wts, ih]; omega
theorem wts_length (ps : List Tree) : ps.length ≤ Tree.wts ps := by
  induction ps with
  | nil => simp
  | cons p ps ih => have := wt_pos p; simp only [List.length_cons, Tree.wts]; omega
theorem wt_part (ps : List Tree) (i : Nat) (p : Tree) (h : ps[i]? = some p) : p.wt ≤ Tree.wts ps := by
  induction ps generalizing i with
  | nil => simp at h
  | cons q ps ih =>
    cases i with
    | zero => simp at h; subst h; simp only [Tree.wts]; omega
    | succ i => have := ih i (by simpa using h); simp only [Tree.wts]; omega
mutual
theorem size_le_wt : ∀ t : Tree, t.size ≤ t.wt
  | .atom _ => Nat.le_refl _
  | .node ps => by rw [Tree.size, Tree.wt]; have := sizes_le_wts ps; omega
theorem sizes_le_wts : ∀ ps : List Tree, Tree.sizes ps ≤ Tree.wts ps
  | [] => Nat.le_refl _
  | p :: ps => by rw [Tree.sizes, Tree.wts]; have := size_le_wt p; have := sizes_le_wts ps; omega
end
theorem rdL_wt (s : ByteArray) (f : Nat → Option (Tree × Nat)) (hf : ∀ i p e, f i = some (p, e) → i + p.wt ≤ e) :
    ∀ n i acc p e, rdL s f n i acc = some (p, e) → i + p.wt ≤ e + Tree.wts acc := by
  intro n; induction n with
  | zero => intro i acc p e h; simp [rdL] at h
  | succ n ih =>
    intro i acc p e h
    rw [rdL] at h
    cases hr : f (i + 1) with
    | none => rw [hr] at h; simp at h
    | some x =>
      obtain ⟨p1, e1⟩ := x
      have hb := hf _ _ _ hr
      rw [hr] at h; simp only at h
      split at h
      · split at h
        · simp only [Option.some.injEq, Prod.mk.injEq] at h
          obtain ⟨rfl, rfl⟩ := h
          simp only [Tree.wt, wts_append, Tree.wts]; omega
        · split at h
          · have := ih _ _ _ _ h
            simp only [wts_append, Tree.wts] at this; omega
          · simp at h
      · simp at h
theorem rd_wt (s : ByteArray) : ∀ k i p e, rd s k i = some (p, e) → i + p.wt ≤ e := by
  intro k; induction k with
  | zero => intro i p e h; simp [rd] at h
  | succ k ih =>
    intro i p e h
    rw [rd] at h
    split at h
    · split at h
      · have := rdL_wt s _ ih _ _ _ _ _ h; simpa [Tree.wts] using this
      · split at h
        · simp at h
        · simp only [Option.some.injEq, Prod.mk.injEq] at h
          obtain ⟨rfl, rfl⟩ := h
          have := runEnd_ge s i; simp only [Tree.wt]; omega
    · simp at h

/-- What a whole text reads as. -/
def parse (s : ByteArray) : Option Tree :=
  if s.size ≤ 12000 then
    match rd s 101 0 with
    | some (t, e) => if e = s.size then some t else none
    | none => none
  else none
theorem parse_wt {s : ByteArray} {t : Tree} (h : parse s = some t) : t.wt ≤ 12000 := by
  unfold parse at h
  split at h
  · cases hr : rd s 101 0 with
    | none => rw [hr] at h; simp at h
    | some x =>
      obtain ⟨p, e⟩ := x
      rw [hr] at h; simp only at h
      split at h
      · simp at h; subst h; have := rd_wt _ _ _ _ _ hr; omega
      · simp at h
  · simp at h
theorem Kept.alloc {w w1 : World} (h : Kept w w1) (hs : w.heap.size ≤ w1.heap.size) (o : Obj) : Kept w (w1.alloc o) := h.below ((Below.refl w.heap.size w1).alloc hs o) (Nat.le_refl _)
theorem TIn.atom_inv {w : World} {S : Nat → Prop} {s : ByteArray} {a : ByteArray} {p : Option Addr} {l c : Nat} (h : TIn w S (.atom s) ⟨a, p, l, c⟩) : a = s ∧ p = none ∧ l = 0 ∧ c = 0 ∧ s.size ≠ 0 := by
  cases h with
  | atom s h hm => exact ⟨rfl, rfl, rfl, rfl, h⟩
theorem TIn.node_inv {w : World} {S : Nat → Prop} {ps : List Tree} {a : ByteArray} {p : Option Addr} {l c : Nat} (h : TIn w S (.node ps) ⟨a, p, l, c⟩) : ∃ (b : Nat) (A : Nat → Hd), a = ByteArray.empty ∧ p = some ⟨b, 0, none⟩ ∧ l = ps.length ∧ ps.length ≤ c ∧ c ≤ maxLen ∧ 0 < ps.length ∧
    (∀ i, i < ps.length → w.cell? ⟨b, i * 2, none⟩ = some (.string (A i).a)) ∧ (∀ i, i < ps.length → w.cell? ⟨b, i * 2 + 1, none⟩ = some (.slice (A i).p (A i).l (A i).c)) ∧ (∀ i q, ps[i]? = some q → TIn w S q (A i)) := by
  cases h with
  | node ps b cap A hp hl hc hS hA hB hps => exact ⟨b, A, rfl, rfl, rfl, hl, hc, hp, hA, hB, hps⟩
end Go.Proofs.YtfogjomebcponaaDoor
