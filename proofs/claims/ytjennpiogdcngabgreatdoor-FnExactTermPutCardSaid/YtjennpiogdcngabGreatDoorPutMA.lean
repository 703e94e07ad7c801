/- TermPut, merged: Back, PutP, Wlen. -/
import Derived.Test.YtjennpiogdcngabGreatDoorWrite
import Derived.Test.YtjennpiogdcngabGreatDoorTermU
import Derived.Test.YtjennpiogdcngabGreatDoorTermA
namespace Go.Proofs.YtjennpiogdcngabGreatDoor
open Go.RowKit

mutual
/-- A tree of atoms and parts as they are read. -/
def Tree.wk : Tree → Prop
  | .atom s => s.size ≠ 0 ∧ ∀ b ∈ s.data.toList, atomB b.toNat = true
  | .node ps => ps ≠ [] ∧ Tree.wks ps
def Tree.wks : List Tree → Prop
  | [] => True
  | p :: ps => p.wk ∧ Tree.wks ps
end
mutual
/-- How many parentheses lie within each other, and one. -/
def Tree.dp : Tree → Nat
  | .atom _ => 1
  | .node ps => 1 + Tree.dps ps
def Tree.dps : List Tree → Nat
  | [] => 0
  | p :: ps => Nat.max p.dp (Tree.dps ps)
end
theorem wks_mem {ps : List Tree} (h : Tree.wks ps) : ∀ p ∈ ps, p.wk := by
  induction ps with
  | nil => intro p hp; simp at hp
  | cons q ps ih =>
    rw [Tree.wks] at h
    intro p hp
    rcases List.mem_cons.1 hp with rfl | hp
    · exact h.1
    · exact ih h.2 p hp
theorem wks_of {ps : List Tree} (h : ∀ p ∈ ps, p.wk) : Tree.wks ps := by
  induction ps with
  | nil => trivial
  | cons q ps ih => exact ⟨h q (List.mem_cons_self ..), ih (fun p hp => h p (List.mem_cons_of_mem _ hp))⟩
theorem dps_mem {ps : List Tree} {k : Nat} : Tree.dps ps ≤ k ↔ ∀ p ∈ ps, p.dp ≤ k := by
  induction ps with
  | nil => simp [Tree.dps]
  | cons q ps ih =>
    rw [Tree.dps]
    constructor
    · intro h p hp
      have h1 : q.dp ≤ k := Nat.le_trans (Nat.le_max_left _ _) h
      have h2 : Tree.dps ps ≤ k := Nat.le_trans (Nat.le_max_right _ _) h
      rcases List.mem_cons.1 hp with rfl | hp
      · exact h1
      · exact ih.1 h2 p hp
    · intro h
      exact Nat.max_le.2 ⟨h q (List.mem_cons_self ..), ih.2 (fun p hp => h p (List.mem_cons_of_mem _ hp))⟩

theorem byte_drop {s : ByteArray} {i : Nat} {b : UInt8} {r : List UInt8} (h : s.data.toList.drop i = b :: r) : i < s.size ∧ byteAt s i = b.toNat ∧ s.data.toList.drop (i + 1) = r := by
  have hi : i < s.data.toList.length := by
    rcases Nat.lt_or_ge i s.data.toList.length with hc | hc
    · exact hc
    · rw [List.drop_of_length_le hc] at h; simp at h
  rw [List.drop_eq_getElem_cons hi] at h
  simp only [List.cons.injEq] at h
  have hs : i < s.size := by simpa using hi
  refine ⟨hs, ?_, h.2⟩
  rw [byteAt_lt s i hs]
  congr 1
  rw [← h.1]; rfl
/-- What stands behind an atom. -/
def stopB (r : List UInt8) : Prop := ∀ b q, r = b :: q → atomB b.toNat = false
theorem run_back {s : ByteArray} : ∀ (xs : List UInt8) (i : Nat) (r : List UInt8), (∀ b ∈ xs, atomB b.toNat = true) → stopB r → s.data.toList.drop i = xs ++ r → runEnd s i = i + xs.length
  | [], i, r, _, hr, h => by
    refine runEnd_stop s i ?_
    rintro ⟨h1, h2⟩
    have hd := List.drop_eq_getElem_cons (l := s.data.toList) (i := i) (by simpa using h1)
    rw [h, List.nil_append] at hd
    have := hr _ _ hd
    have hb := byte_drop (s := s) (i := i) (by rw [h, List.nil_append]; exact hd)
    rw [hb.2.1, this] at h2
    cases h2
  | x :: xs, i, r, hx, hr, h => by
    have hb := byte_drop (s := s) (i := i) (b := x) (r := xs ++ r) (by rw [h]; rfl)
    rw [runEnd_go s i hb.1 (by rw [hb.2.1]; exact hx x (List.mem_cons_self ..)), run_back xs (i + 1) r (fun b hb => hx b (List.mem_cons_of_mem _ hb)) hr hb.2.2, List.length_cons]
    omega
theorem extract_back {s a : ByteArray} {i : Nat} {r : List UInt8} (h : s.data.toList.drop i = a.data.toList ++ r) : s.extract i (i + a.data.toList.length) = a := by
  have h1 : (s.extract i (i + a.data.toList.length)).data.toList = a.data.toList := by
    rw [sl_extract, sl, h, show i + a.data.toList.length - i = a.data.toList.length by omega, List.take_left]
  cases a with
  | mk d =>
    generalize s.extract i (i + (ByteArray.mk d).data.toList.length) = x at h1
    cases x with
    | mk e => simp at h1; rw [h1]
theorem rdL_back (s : ByteArray) (f : Nat → Option (Tree × Nat)) (rest : List UInt8) : ∀ (ps : List Tree) (p : Tree) (n i : Nat) (acc : List Tree), ps.length < n →
    (∀ q ∈ p :: ps, ∀ j r, s.data.toList.drop j = q.write ++ r → stopB r → f j = some (q, j + q.write.length)) → s.data.toList.drop (i + 1) = p.write ++ (Tree.writes ps ++ 41 :: rest) →
    rdL s f n i acc = some (.node (acc ++ p :: ps), i + 1 + p.write.length + (Tree.writes ps).length + 1)
  | [], p, n + 1, i, acc, _, hf, h => by
    have h1 := hf p (List.mem_cons_self ..) (i + 1) _ h (by intro b q e; simp [Tree.writes] at e; rw [← e.1]; rfl)
    have h2 : s.data.toList.drop (i + 1 + p.write.length) = 41 :: rest := by rw [← List.drop_drop, h, List.drop_left]; rfl
    have hb := byte_drop h2
    rw [rdL, h1]
    simp only
    rw [if_pos hb.1, if_pos (by rw [hb.2.1]; rfl)]
    rfl
  | q :: qs, p, n + 1, i, acc, hn, hf, h => by
    have h1 := hf p (List.mem_cons_self ..) (i + 1) _ h (by intro b r e; simp [Tree.writes] at e; rw [← e.1]; rfl)
    have h2 : s.data.toList.drop (i + 1 + p.write.length) = 32 :: (q.write ++ (Tree.writes qs ++ 41 :: rest)) := by rw [← List.drop_drop, h, List.drop_left, Tree.writes]; simp
    have hb := byte_drop h2
    have ih := rdL_back s f rest qs q n (i + 1 + p.write.length) (acc ++ [p]) (by simp at hn; omega) (fun x hx => hf x (List.mem_cons_of_mem _ hx)) hb.2.2
    rw [rdL, h1]
    simp only
    rw [if_pos hb.1, if_neg (by rw [hb.2.1]; decide), if_pos (by rw [hb.2.1]; rfl), ih]
    simp only [Tree.writes, List.length_cons, List.length_append, List.append_assoc, List.singleton_append, Option.some.injEq, Prod.mk.injEq, true_and]
    omega
theorem writes_len (ps : List Tree) : ps.length ≤ (Tree.writes ps).length := by
  induction ps with
  | nil => simp
  | cons p ps ih => simp only [Tree.writes, List.length_cons, List.length_append]; omega
theorem rd_back (s : ByteArray) : ∀ (k : Nat) (t : Tree) (i : Nat) (r : List UInt8), t.wk → t.dp ≤ k → s.data.toList.drop i = t.write ++ r → stopB r → rd s k i = some (t, i + t.write.length)
  | 0, t, _, _, _, hd, _, _ => by cases t <;> simp [Tree.dp] at hd
  | k + 1, .atom a, i, r, hw, _, h, hr => by
    rw [Tree.wk] at hw
    rw [Tree.write] at h ⊢
    have h1 := run_back a.data.toList i r hw.2 hr h
    have hne : a.data.toList.length ≠ 0 := by simpa using hw.1
    obtain ⟨x, xs, hx⟩ : ∃ x xs, a.data.toList = x :: xs := by
      cases hc : a.data.toList with
      | nil => rw [hc] at hne; simp at hne
      | cons x xs => exact ⟨x, xs, rfl⟩
    have hb := byte_drop (s := s) (i := i) (b := x) (r := xs ++ r) (by rw [h, hx]; rfl)
    have h40 : byteAt s i ≠ 40 := by
      intro e
      have := hw.2 x (by rw [hx]; exact List.mem_cons_self ..)
      rw [← hb.2.1, e] at this
      cases this
    rw [rd_some_atom (by omega) hb.1 h40 (by rw [h1]; omega), h1, extract_back h]
  | k + 1, .node [], _, _, hw, _, _, _ => by rw [Tree.wk] at hw; exact absurd rfl hw.1
  | k + 1, .node (p :: ps), i, r, hw, hd, h, hr => by
    rw [Tree.wk] at hw
    rw [Tree.dp] at hd
    have hm := wks_mem hw.2
    have hdm := dps_mem.1 (show Tree.dps (p :: ps) ≤ k by omega)
    rw [Tree.write] at h
    have hb := byte_drop (s := s) (i := i) (b := 40) (r := p.write ++ (Tree.writes ps ++ 41 :: r)) (by rw [h]; simp)
    have hl : (s.data.toList.drop (i + 1)).length = (p.write ++ (Tree.writes ps ++ 41 :: r)).length := by rw [hb.2.2]
    have h2 := writes_len ps
    have hn : ps.length < s.size + 1 := by simp at hl; omega
    rw [rd_paren hb.1 (by rw [hb.2.1]; rfl), rdL_back s (rd s k) r ps p (s.size + 1) i [] hn (fun q hq j r' h1 h2 => rd_back s k q j r' (hm q hq) (hdm q hq) h1 h2) hb.2.2]
    simp only [List.nil_append, Tree.write, List.length_cons, List.length_append, List.length_nil, Option.some.injEq, Prod.mk.injEq, true_and]
    omega
theorem parse_back {s : ByteArray} {t : Tree} (hs : s.data.toList = t.write) (hw : t.wk) (hd : t.dp ≤ 101) (hl : t.write.length ≤ 12000) : parse s = some t := by
  have hz : s.size = t.write.length := by rw [← hs]; simp
  have h := rd_back s 101 t 0 [] hw hd (by rw [List.drop_zero, hs, List.append_nil]) (by intro b q e; cases e)
  unfold parse
  rw [if_pos (by omega), h]
  simp only
  rw [if_pos (by omega)]

/-- What is read is such a tree. -/
theorem runF_all (s : ByteArray) : ∀ (n i : Nat), ∀ j, i ≤ j → j < runF s n i → atomB (byteAt s j) = true
  | 0, i, j, h1, h2 => by rw [runF] at h2; omega
  | n + 1, i, j, h1, h2 => by
    rw [runF] at h2
    split at h2
    · rename_i hc
      by_cases e : j = i
      · rw [e]; exact hc.2
      · exact runF_all s n (i + 1) j (by omega) h2
    · omega
theorem rdL_wk (s : ByteArray) (f : Nat → Option (Tree × Nat)) (k : Nat) (hf : ∀ i p e, f i = some (p, e) → p.wk ∧ p.dp ≤ k) :
    ∀ n i acc p e, (∀ q ∈ acc, q.wk ∧ q.dp ≤ k) → rdL s f n i acc = some (p, e) → p.wk ∧ p.dp ≤ k + 1 := by
  intro n; induction n with
  | zero => intro i acc p e _ h; simp [rdL] at h
  | succ n ih =>
    intro i acc p e ha h
    rw [rdL] at h
    cases hr : f (i + 1) with
    | none => rw [hr] at h; simp at h
    | some x =>
      obtain ⟨p1, e1⟩ := x
      have hb := hf _ _ _ hr
      have ha2 : ∀ q ∈ acc ++ [p1], q.wk ∧ q.dp ≤ k := by
        intro q hq
        rcases List.mem_append.1 hq with hq | hq
        · exact ha q hq
        · simp at hq; subst hq; exact hb
      rw [hr] at h; simp only at h
      split at h
      · split at h
        · simp only [Option.some.injEq, Prod.mk.injEq] at h
          obtain ⟨rfl, _⟩ := h
          rw [Tree.wk, Tree.dp]
          exact ⟨⟨by simp, wks_of fun q hq => (ha2 q hq).1⟩, by have := dps_mem.2 (fun q hq => (ha2 q hq).2); omega⟩
        · split at h
          · exact ih _ _ _ _ ha2 h
          · simp at h
      · simp at h
theorem rd_wk (s : ByteArray) : ∀ k i p e, rd s k i = some (p, e) → p.wk ∧ p.dp ≤ k := by
  intro k; induction k with
  | zero => intro i p e h; simp [rd] at h
  | succ k ih =>
    intro i p e h
    rw [rd] at h
    split at h
    · rename_i hlt
      split at h
      · exact rdL_wk s _ k ih _ _ _ _ _ (fun q hq => by simp at hq) h
      · split at h
        · simp at h
        · rename_i hne
          simp only [Option.some.injEq, Prod.mk.injEq] at h
          obtain ⟨rfl, rfl⟩ := h
          have hge := runEnd_ge s i
          have hle := runEnd_le s i (by omega)
          rw [Tree.wk, Tree.dp]
          refine ⟨⟨by rw [ByteArray.size_extract]; omega, fun b hb => ?_⟩, by omega⟩
          rw [sl_extract, sl] at hb
          obtain ⟨j, hj, rfl⟩ := List.getElem_of_mem hb
          simp at hj
          have h1 := runF_all s _ i (i + j) (by omega) (show i + j < runEnd s i by omega)
          rw [byteAt_lt s (i + j) (by omega)] at h1
          rw [List.getElem_take, List.getElem_drop]
          exact h1
    · simp at h
theorem parse_wk {s : ByteArray} {t : Tree} (h : parse s = some t) : t.wk ∧ t.dp ≤ 101 ∧ t.write.length ≤ 12000 := by
  have hw := parse_write h
  unfold parse at h
  split at h
  · rename_i hs
    cases hr : rd s 101 0 with
    | none => rw [hr] at h; simp at h
    | some x =>
      obtain ⟨p, e⟩ := x
      rw [hr] at h; simp only at h
      split at h
      · simp at h; subst h
        have := rd_wk s _ _ _ _ hr
        refine ⟨this.1, this.2, ?_⟩
        rw [← hw]; simpa using hs
      · simp at h
  · simp at h
theorem part_wk {q : Tree} {ps : List Tree} (h : (Tree.node ps).wk ∧ (Tree.node ps).dp ≤ 101) (hq : q ∈ ps) : q.wk ∧ q.dp ≤ 101 := by
  rw [Tree.wk, Tree.dp] at h
  have := dps_mem.1 (Nat.le_refl (Tree.dps ps)) q hq
  exact ⟨wks_mem h.1.2 q hq, by omega⟩
end Go.Proofs.YtjennpiogdcngabGreatDoor

namespace Go.Proofs.YtjennpiogdcngabGreatDoor
open Go.RowKit

mutual
/-- A term with another one in the place of a name that stands free. -/
def Tm.put (s : List UInt8) (v : Tm) : Tm → Tm
  | .mk hd a d bs ty ks => if hd.toList = [110, 97, 109, 101] ∧ d = -1 ∧ a.toList = s then v else .mk hd a d bs ty (Tm.puts s v ks)
def Tm.puts (s : List UInt8) (v : Tm) : List Tm → List Tm
  | [] => []
  | k :: ks => Tm.put s v k :: Tm.puts s v ks
end
mutual
/-- A tree with another one in the place of a name that stands free. -/
def Tree.put (s : List UInt8) (v : Tree) : Tree → Tree
  | .atom a => if a.toList = s then v else .atom a
  | .node [] => .node []
  | .node (h :: ps) => .node (h :: Tree.puts s v (xsOf (shape h.text.toList) ps) (shape h.text.toList) ps)
def Tree.puts (s : List UInt8) (v : Tree) (xs : List ByteArray) : List Sg → List Tree → List Tree
  | [], ps => ps
  | _ :: _, [] => []
  | c :: cs, p :: ps => (if c.isK = true ∧ ¬ (cs = [] ∧ hasB xs s = true) then Tree.put s v p else p) :: Tree.puts s v xs cs ps
end
theorem tmputs_append (s : List UInt8) (v : Tm) (a b : List Tm) : Tm.puts s v (a ++ b) = Tm.puts s v a ++ Tm.puts s v b := by
  induction a with
  | nil => rfl
  | cons x a ih => simp only [List.cons_append, Tm.puts, ih]
theorem tmputs_map (s : List UInt8) (v : Tm) (l : List Tm) : Tm.puts s v l = l.map (Tm.put s v) := by
  induction l with
  | nil => rfl
  | cons x l ih => rw [Tm.puts, ih]; rfl
theorem put_isVal {s : List UInt8} {v : Tm} (hv : v.isVal = true) (m : Tm) : (Tm.put s v m).isVal = m.isVal := by
  cases m with
  | mk hd a d bs ty ks =>
    rw [Tm.put]
    split
    · rename_i h; rw [hv, Tm.isVal, h.1]; rfl
    · rfl
theorem puts_length (s : List UInt8) (v : Tree) (xs : List ByteArray) : ∀ (cs : List Sg) (ps : List Tree), cs.length = ps.length → (Tree.puts s v xs cs ps).length = ps.length
  | [], ps, _ => by rw [Tree.puts]
  | c :: cs, p :: ps, h => by rw [Tree.puts, List.length_cons, List.length_cons, puts_length s v xs cs ps (by simpa using h)]
theorem puts_xsOf (s : List UInt8) (v : Tree) (xs : List ByteArray) : ∀ (cs : List Sg) (ps : List Tree), xsOf cs (Tree.puts s v xs cs ps) = xsOf cs ps
  | [], ps => by rw [Tree.puts]
  | _ :: _, [] => by rw [Tree.puts]
  | c :: cs, p :: ps => by
    rw [Tree.puts]
    cases c <;> simp [xsOf, Sg.isK, puts_xsOf s v xs cs ps]
def St.put (s : List UInt8) (v : Tm) (st : St) : St := { st with kids := Tm.puts s v st.kids }
theorem addX_put {s : List UInt8} {v : Tm} {x : ByteArray} {st st1 : St} (h : addX x st = some st1) : addX x (st.put s v) = some (st1.put s v) := by
  unfold addX at h ⊢
  split at h
  · rename_i c
    simp at h; subst h
    rw [if_pos (by exact c)]; rfl
  · simp at h
theorem addT_put {s : List UInt8} {v : Tm} {b : Bool} {t : Tree} {st st1 : St} (h : addT b t st = some st1) : addT b t (st.put s v) = some (st1.put s v) := by
  unfold addT at h ⊢
  cases ht : tyLim t with
  | none => rw [ht] at h; cases h
  | some ty =>
    rw [ht] at h
    simp only at h ⊢
    split at h
    · rename_i c; simp at h; subst h; rw [if_pos c]; rfl
    · simp at h
theorem addK_put {s : List UInt8} {v : Tm} (hv : v.isVal = true) {b : Bool} {m : Tm} {st st1 : St} (h : addK b (some m) st = some st1) : addK b (some (Tm.put s v m)) (st.put s v) = some (st1.put s v) := by
  unfold addK at h ⊢
  simp only at h ⊢
  split at h
  · rename_i c
    simp at h; subst h
    rw [if_pos (by rw [put_isVal hv]; exact c)]
    simp [St.put, tmputs_append, Tm.puts]
  · simp at h
/-- What is asked of a tree that is a term. -/
def PutOk (s : List UInt8) (vt : Tree) (v : Tm) (p : Tree) : Prop := ∀ ar m, p.tm ar = some m → (hasB ar s = false → (Tree.put s vt p).tm ar = some (Tm.put s v m)) ∧ (hasB ar s = true → Tm.put s v m = m)
theorem parts_put {s : List UInt8} {vt : Tree} {v : Tm} (hv : v.isVal = true) (ar : List ByteArray) (xs : List ByteArray) : ∀ (cs : List Sg) (ps : List Tree) (st st' : St) (b : Bool), (∀ p ∈ ps, PutOk s vt v p) → cs.length = ps.length → goodSh cs b = true → (b = false → st.binds = []) → xs = st.binds ++ xsOf cs ps →
    Tree.parts ar cs ps st = some st' → (hasB ar s = false → Tree.parts ar cs (Tree.puts s vt xs cs ps) (st.put s v) = some (st'.put s v)) ∧ (hasB ar s = true → Tm.puts s v st.kids = st.kids → Tm.puts s v st'.kids = st'.kids)
  | [], [], st, st', b, _, _, _, _, _, h => by simp [Tree.parts] at h; subst h; simp [Tree.puts, Tree.parts]
  | c :: cs, p :: ps, st, st', b, ih, hl, hg, hb, hx, h => by
    have ih' : ∀ p ∈ ps, PutOk s vt v p := fun q hq => ih q (List.mem_cons_of_mem _ hq)
    have hl' : cs.length = ps.length := by simpa using hl
    have kid : ∀ w, xsOf (c :: cs) (p :: ps) = xsOf cs ps → c.isK = true → ((cs.isEmpty || !b) && goodSh cs b) = true → (∀ st1, Tree.parts ar (c :: cs) (p :: ps) st1 = (match addK w (p.tm (ar ++ st1.binds)) st1 with | some st' => Tree.parts ar cs ps st' | none => none)) →
        (∀ p2 ps2 st1, Tree.parts ar (c :: cs) (p2 :: ps2) st1 = (match addK w (p2.tm (ar ++ st1.binds)) st1 with | some st' => Tree.parts ar cs ps2 st' | none => none)) →
        (hasB ar s = false → Tree.parts ar (c :: cs) (Tree.puts s vt xs (c :: cs) (p :: ps)) (st.put s v) = some (st'.put s v)) ∧ (hasB ar s = true → Tm.puts s v st.kids = st.kids → Tm.puts s v st'.kids = st'.kids) := by
      intro w hxo hk hgg hp hp2
      rw [hp] at h
      cases h1 : addK w (p.tm (ar ++ st.binds)) st with
      | none => rw [h1] at h; simp at h
      | some st1 =>
        rw [h1] at h
        simp only at h
        obtain ⟨m, ht, h3⟩ := addK_inv h1
        rw [ht] at h1
        simp only [Bool.and_eq_true, Bool.or_eq_true] at hgg
        have hb1 : st1.binds = st.binds := by rw [h3]
        have hi := parts_put hv ar xs cs ps st1 st' b ih' hl' hgg.2 (fun e => by rw [hb1]; exact hb e) (by rw [hb1, hx, hxo]) h
        have hf := ih p (List.mem_cons_self ..) _ _ ht
        refine ⟨fun ha => ?_, fun ha hks => hi.2 ha ?_⟩
        · rw [Tree.puts, hp2]
          have key : addK w ((if c.isK = true ∧ ¬ (cs = [] ∧ hasB xs s = true) then Tree.put s vt p else p).tm (ar ++ (st.put s v).binds)) (st.put s v) = some (st1.put s v) := by
            show addK w ((if c.isK = true ∧ ¬ (cs = [] ∧ hasB xs s = true) then Tree.put s vt p else p).tm (ar ++ st.binds)) (st.put s v) = some (st1.put s v)
            by_cases hc : cs = [] ∧ hasB xs s = true
            · rw [if_neg (fun e => e.2 hc), ht]
              have hxb : xs = st.binds := by
                obtain ⟨rfl, _⟩ := hc
                match ps, hl' with
                | [], _ => rw [hx, hxo]; simp [xsOf]
              have := hf.2 (by rw [hasB_append, ← hxb, hc.2, Bool.or_true])
              have h2 := addK_put (s := s) hv h1
              rw [this] at h2
              exact h2
            · rw [if_pos ⟨hk, hc⟩]
              have hbs : hasB (ar ++ st.binds) s = false := by
                by_cases hce : cs = []
                · have hxb : xs = st.binds := by
                    subst hce
                    match ps, hl' with
                    | [], _ => rw [hx, hxo]; simp [xsOf]
                  rw [hasB_append, ha, ← hxb, Bool.false_or]
                  exact Bool.eq_false_iff.2 (fun e => hc ⟨hce, e⟩)
                · have : b = false := by
                    rcases hgg.1 with h | h
                    · simp at h; exact absurd h hce
                    · simpa using h
                  rw [hb this, List.append_nil]; exact ha
              rw [hf.1 hbs]
              exact addK_put hv h1
          rw [key]
          exact hi.1 ha
        · have := hf.2 (by rw [hasB_append, ha, Bool.true_or])
          rw [h3, tmputs_append, hks]
          simp [Tm.puts, this]
    cases c with
    | X =>
      rw [Tree.parts] at h
      cases h1 : addX p.text st with
      | none => rw [h1] at h; simp at h
      | some st1 =>
        rw [h1] at h
        have h2 := addX_inv h1
        have hi := parts_put hv ar xs cs ps st1 st' true ih' hl' (by simpa [goodSh] using hg) (by simp) (by rw [hx, h2.2]; simp [xsOf]) h
        refine ⟨fun ha => ?_, fun ha hks => hi.2 ha (by rw [h2.2]; exact hks)⟩
        rw [Tree.puts, if_neg (fun e => by cases e.1), Tree.parts, addX_put h1]
        exact hi.1 ha
    | A =>
      rw [Tree.parts] at h
      cases h1 : addT true p st with
      | none => rw [h1] at h; simp at h
      | some st1 =>
        rw [h1] at h
        obtain ⟨ty, ht, h2⟩ := addT_inv h1
        have hi := parts_put hv ar xs cs ps st1 st' b ih' hl' (by simpa [goodSh] using hg) (fun e => by rw [h2]; exact hb e) (by rw [hx, h2]; simp [xsOf]) h
        refine ⟨fun ha => ?_, fun ha hks => hi.2 ha (by rw [h2]; exact hks)⟩
        rw [Tree.puts, if_neg (fun e => by cases e.1), Tree.parts, addT_put h1]
        exact hi.1 ha
    | C =>
      rw [Tree.parts] at h
      cases h1 : addT false p st with
      | none => rw [h1] at h; simp at h
      | some st1 =>
        rw [h1] at h
        obtain ⟨ty, ht, h2⟩ := addT_inv h1
        have hi := parts_put hv ar xs cs ps st1 st' b ih' hl' (by simpa [goodSh] using hg) (fun e => by rw [h2]; exact hb e) (by rw [hx, h2]; simp [xsOf]) h
        refine ⟨fun ha => ?_, fun ha hks => hi.2 ha (by rw [h2]; exact hks)⟩
        rw [Tree.puts, if_neg (fun e => by cases e.1), Tree.parts, addT_put h1]
        exact hi.1 ha
    | V => exact kid true (by simp [xsOf]) rfl (by simpa only [goodSh] using hg) (fun st1 => by rw [Tree.parts]; rfl) (fun p2 ps2 st1 => by rw [Tree.parts]; rfl)
    | M => exact kid false (by simp [xsOf]) rfl (by simpa only [goodSh] using hg) (fun st1 => by rw [Tree.parts]; rfl) (fun p2 ps2 st1 => by rw [Tree.parts]; rfl)
/-- A CLOSED VALUE IN THE PLACE OF A NAME: the tree's term is the term's. -/
theorem put_tm {s : List UInt8} {vt : Tree} {v : Tm} (hs : nameB s = true) (hv : v.isVal = true) (hvt : ∀ ar, vt.tm ar = some v) (t : Tree) : PutOk s vt v t := by
  intro ar m h
  match t with
  | .atom x =>
    rw [Tree.tm, atomTm] at h
    split at h
    · rename_i c
      have hne : ¬ x.toList = s := by intro e; rw [← e] at hs; rcases c with c | c <;> (rw [c] at hs; cases hs)
      simp at h; subst h
      have hp : Tm.put s v (.mk strBit x (-1) [] none []) = .mk strBit x (-1) [] none [] := by rw [Tm.put, if_neg (fun e => by rw [strBit_toList] at e; simp at e), Tm.puts]
      rw [hp, Tree.put, if_neg hne, Tree.tm, atomTm, if_pos c]
      exact ⟨fun _ => rfl, fun _ => rfl⟩
    · rename_i c0
      split at h
      · rename_i c
        simp at h; subst h
        have hd := depthIn_neg x.toList ar
        by_cases e : x.toList = s
        · subst e
          refine ⟨fun ha => ?_, fun ha => ?_⟩
          · rw [ha] at hd; simp at hd
            rw [Tree.put, if_pos rfl, hvt, Tm.put, if_pos ⟨strName_toList, hd, rfl⟩]
          · rw [ha] at hd; simp at hd
            rw [Tm.put, if_neg (fun h => hd h.2.1), Tm.puts]
        · have hp : Tm.put s v (.mk strName x (depthIn x.toList ar) [] none []) = .mk strName x (depthIn x.toList ar) [] none [] := by rw [Tm.put, if_neg (fun h => e h.2.2), Tm.puts]
          rw [hp, Tree.put, if_neg e, Tree.tm, atomTm, if_neg c0, if_pos c]
          exact ⟨fun _ => rfl, fun _ => rfl⟩
      · simp at h
  | .node [] => rw [Tree.tm] at h; simp at h
  | .node (q :: ps) =>
    obtain ⟨st, h1, h2, h3, rfl⟩ := tm_node h
    have hpp := parts_put (s := s) (vt := vt) hv ar (xsOf (shape q.text.toList) ps) _ ps St.none st false (fun p hp => put_tm hs hv hvt p) h2 (shape_good _) (fun _ => rfl) (by simp [St.none]) h3
    have hne : ¬ (q.text.toList = [110, 97, 109, 101] ∧ (0 : Int) = -1 ∧ ByteArray.empty.toList = s) := fun e => by cases e.2.1
    rw [Tm.put, if_neg hne]
    refine ⟨fun ha => ?_, fun ha => ?_⟩
    · rw [Tree.put, Tree.tm, if_neg (by rw [puts_length _ _ _ _ _ h2]; intro e; rcases e with e | e; exact h1 e; exact e h2)]
      have := hpp.1 ha
      rw [show St.none.put s v = St.none from rfl] at this
      rw [this]; rfl
    · rw [hpp.2 ha rfl]
termination_by t
decreasing_by
  have := List.sizeOf_lt_of_mem hp
  simp; omega
end Go.Proofs.YtjennpiogdcngabGreatDoor

namespace Go.Proofs.YtjennpiogdcngabGreatDoor
open Go.RowKit

theorem nameB_len {l : List UInt8} (h : nameB l = true) : 1 ≤ l.length ∧ l.length ≤ 4 := by
  cases l with
  | nil => cases h
  | cons c l =>
    rw [nameB] at h
    simp only [Bool.and_eq_true, decide_eq_true_eq] at h
    simp; omega
theorem shape_len6 {h : List UInt8} (hs : shape h ≠ []) : h.length ≤ 6 := by
  unfold shape at hs
  by_cases c0 : h = [112, 97, 105, 114]
  · rw [c0]; decide
  rw [if_neg c0] at hs
  by_cases c1 : h = [116, 104, 117, 110, 107] ∨ h = [102, 115, 116] ∨ h = [115, 110, 100]
  · rcases c1 with c | c | c <;> (rw [c]; decide)
  rw [if_neg c1] at hs
  by_cases c2 : h = [114, 101, 116, 117, 114, 110] ∨ h = [102, 111, 114, 99, 101]
  · rcases c2 with c | c <;> (rw [c]; decide)
  rw [if_neg c2] at hs
  by_cases c3 : h = [116, 111]
  · rw [c3]; decide
  rw [if_neg c3] at hs
  by_cases c4 : h = [108, 97, 109]
  · rw [c4]; decide
  rw [if_neg c4] at hs
  by_cases c5 : h = [97, 112, 112]
  · rw [c5]; decide
  rw [if_neg c5] at hs
  by_cases c6 : h = [105, 102]
  · rw [c6]; decide
  rw [if_neg c6] at hs
  by_cases c7 : h = [115, 112, 108, 105, 116]
  · rw [c7]; decide
  rw [if_neg c7] at hs
  by_cases c8 : h = [98, 111, 116, 104] ∨ h = [116, 114, 121]
  · rcases c8 with c | c <;> (rw [c]; decide)
  rw [if_neg c8] at hs
  by_cases c9 : h = [103, 101, 116]
  · rw [c9]; decide
  rw [if_neg c9] at hs
  by_cases c10 : h = [112, 117, 116]
  · rw [c10]; decide
  rw [if_neg c10] at hs
  by_cases c11 : h = [102, 97, 105, 108]
  · rw [c11]; decide
  rw [if_neg c11] at hs
  exact absurd rfl hs
mutual
theorem ty_wlen : ∀ (t : Tree) (ty : Ty), t.ty = some ty → t.write.length + 3 ≤ 9 * t.size
  | .atom s, ty, h => by
    rw [Tree.ty] at h
    split at h
    · rename_i hs; rw [Tree.write, ← Go.ByteArray.toList_eq, hs, Tree.size]; simp
    · simp at h
  | .node [], ty, h => by simp [Tree.ty] at h
  | .node (q :: qs), ty, h => by
    rw [Tree.ty] at h
    cases hk : Tree.tys qs with
    | none => rw [hk] at h; simp at h
    | some ks =>
      rw [hk] at h; simp only at h
      have hh := tyParts_head h
      have h1 := tys_wlen qs ks hk
      have hne : 1 ≤ qs.length := by
        cases qs with
        | nil => rw [Tree.tys] at hk; simp at hk; subst hk; simp [tyParts] at h
        | cons _ _ => simp
      have hq : q.write.length = 1 ∧ q.size = 1 := by
        cases q with
        | atom x => rw [Tree.text] at hh; rw [Tree.write, ← Go.ByteArray.toList_eq, hh, Tree.size]; exact ⟨rfl, rfl⟩
        | node ps => rw [Tree.text, empty_toList] at hh; simp at hh
      rw [Tree.write, Tree.size, Tree.sizes]
      simp only [List.length_cons, List.length_append, List.length_nil]
      omega
theorem tys_wlen : ∀ (ps : List Tree) (ks : List Ty), Tree.tys ps = some ks → (Tree.writes ps).length + 2 * ps.length ≤ 9 * Tree.sizes ps
  | [], ks, _ => by simp [Tree.writes, Tree.sizes]
  | p :: ps, ks, h => by
    rw [Tree.tys] at h
    cases ht : p.ty with
    | none => rw [ht] at h; simp at h
    | some t =>
      rw [ht] at h; simp only at h
      cases hr : Tree.tys ps with
      | none => rw [hr] at h; simp at h
      | some ts =>
        have h1 := ty_wlen p t ht
        have h2 := tys_wlen ps ts hr
        rw [Tree.writes, Tree.sizes]
        simp only [List.length_cons, List.length_append]
        omega
end
theorem parts_wlen (ar : List ByteArray) : ∀ (cs : List Sg) (ps : List Tree) (st st' : St), (∀ p ∈ ps, ∀ ar m, p.tm ar = some m → p.write.length + 3 ≤ 9 * p.size) → cs.length = ps.length →
    Tree.parts ar cs ps st = some st' → (Tree.writes ps).length + 2 * ps.length ≤ 9 * Tree.sizes ps
  | [], [], st, st', _, _, _ => by simp [Tree.writes, Tree.sizes]
  | c :: cs, p :: ps, st, st', ih, hl, h => by
    have ih' : ∀ p ∈ ps, ∀ ar m, p.tm ar = some m → p.write.length + 3 ≤ 9 * p.size := fun q hq => ih q (List.mem_cons_of_mem _ hq)
    have hl' : cs.length = ps.length := by simpa using hl
    have fin : ∀ st1, p.write.length + 3 ≤ 9 * p.size → Tree.parts ar cs ps st1 = some st' → (Tree.writes (p :: ps)).length + 2 * (p :: ps).length ≤ 9 * Tree.sizes (p :: ps) := by
      intro st1 h1 h2
      have h3 := parts_wlen ar cs ps st1 st' ih' hl' h2
      rw [Tree.writes, Tree.sizes]
      simp only [List.length_cons, List.length_append]
      omega
    cases c with
    | X =>
      rw [Tree.parts] at h
      cases h1 : addX p.text st with
      | none => rw [h1] at h; simp at h
      | some st1 =>
        rw [h1] at h
        have h2 := nameB_len (addX_inv h1).1
        refine fin st1 ?_ h
        cases p with
        | atom x => rw [Tree.text] at h2; rw [Tree.write, ← Go.ByteArray.toList_eq, Tree.size]; omega
        | node ps => rw [Tree.text, empty_toList] at h2; simp at h2
    | A =>
      rw [Tree.parts] at h
      cases h1 : addT true p st with
      | none => rw [h1] at h; simp at h
      | some st1 => rw [h1] at h; obtain ⟨ty, ht, h2⟩ := addT_inv h1; exact fin st1 (ty_wlen p ty (tyLim_ty ht).1) h
    | C =>
      rw [Tree.parts] at h
      cases h1 : addT false p st with
      | none => rw [h1] at h; simp at h
      | some st1 => rw [h1] at h; obtain ⟨ty, ht, h2⟩ := addT_inv h1; exact fin st1 (ty_wlen p ty (tyLim_ty ht).1) h
    | V =>
      rw [Tree.parts] at h
      cases h1 : addK true (p.tm (ar ++ st.binds)) st with
      | none => rw [h1] at h; simp at h
      | some st1 => rw [h1] at h; obtain ⟨m, ht, _⟩ := addK_inv h1; exact fin st1 (ih p (List.mem_cons_self ..) _ _ ht) h
    | M =>
      rw [Tree.parts] at h
      cases h1 : addK false (p.tm (ar ++ st.binds)) st with
      | none => rw [h1] at h; simp at h
      | some st1 => rw [h1] at h; obtain ⟨m, ht, _⟩ := addK_inv h1; exact fin st1 (ih p (List.mem_cons_self ..) _ _ ht) h
/-- A TERM's TEXT HAS NINE BYTES FOR EACH ATOM AT MOST. -/
theorem tm_wlen (t : Tree) (ar : List ByteArray) (m : Tm) (h : t.tm ar = some m) : t.write.length + 3 ≤ 9 * t.size := by
  match t with
  | .atom s =>
    rw [Tree.tm, atomTm] at h
    rw [Tree.write, ← Go.ByteArray.toList_eq, Tree.size]
    split at h
    · rename_i c; rcases c with c | c <;> (rw [c]; decide)
    · split at h
      · rename_i c; have := nameB_len c; omega
      · simp at h
  | .node [] => rw [Tree.tm] at h; simp at h
  | .node (q :: ps) =>
    obtain ⟨st, h1, h2, h3, rfl⟩ := tm_node h
    have h4 := parts_wlen ar _ ps St.none st (fun p hp ar m => tm_wlen p ar m) h2 h3
    have h5 := shape_len6 h1
    have hne : 1 ≤ ps.length := by rw [← h2]; exact List.length_pos_iff.2 h1
    have hq : q.write.length ≤ 6 ∧ q.size = 1 := by
      cases q with
      | atom x => rw [Tree.text] at h5; rw [Tree.write, ← Go.ByteArray.toList_eq, Tree.size]; exact ⟨h5, rfl⟩
      | node qs => rw [Tree.text, empty_toList] at h1; exact absurd rfl h1
    rw [Tree.write, Tree.size, Tree.sizes]
    simp only [List.length_cons, List.length_append, List.length_nil]
    omega
termination_by t
decreasing_by
  have := List.sizeOf_lt_of_mem hp
  simp; omega
end Go.Proofs.YtjennpiogdcngabGreatDoor
