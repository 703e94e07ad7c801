/- Laws on worlds and on append that the walks of this seat lean on. Nothing here speaks of a program's text. -/
import Derived.WalkKit
import Derived.Test.YtfogjomebcponaaDoorPure
namespace Go.Proofs.YtfogjomebcponaaDoor
open Go.RowKit

/-- An append to a slice of the call's own stays in its block, or moves to a new one. -/
theorem run_append_where {P : Program} (w : World) (base : Nat) (t ty e : TypeId) (i : TypeInfo) (z : Value) (size bytes : Nat) (ht : P.underlying t = some (.slice e)) (hi : P.info? e = some i) (hz : i.zero = some z)
    (hsize : i.size = size) (hby : i.bytes = bytes) (hsz : 0 < size)
    (v : Value) (n : Nat) (xs : List Value) (hown : w.ownsRow base e size v n xs)
    (a : Addr) (m c : Nat) (news : List Value) (hl : news.length = m * size) (hnews : ∀ j u, news[j]? = some u → w.cell? (a.add j) = some u) (h1 : ∀ u ∈ news, u.oneCell' = true) (hm : 0 < m)
    (h63 : n + m ≤ maxLen) (hbytes : (n + m) * bytes ≤ 140737488355328) (v' : Value) (w' : World)
    (hr : (Builtin.append_ #[t, t] ty #[v, .slice (some a) m c]).run P w = .ok v' w') : v'.ownBlock = v.ownBlock ∨ v'.ownBlock = some w.heap.size := by
  subst hsize
  subst hby
  have hsmall : n + m ≤ 9223372036854775807 := by simp only [maxLen] at h63; omega
  rcases hown.2 with ⟨rfl, rfl⟩ | ⟨g, cap, cur, rfl, hbg, hg, hnc, hcm, hcs, htake⟩
  · have hb := hbytes
    simp only [Nat.zero_add] at hb
    have hq := run_append_nil (P := P) w t ty e i z ht hi hz a m c news hl hnews hm (by omega) (by omega)
    rw [hq] at hr
    obtain ⟨rfl, rfl⟩ : _ = v' ∧ _ = w' := by simpa using hr
    exact Or.inr rfl
  · by_cases hroom : n + m ≤ cap
    · have hfit : n * i.size + news.length ≤ cur.size := by rw [hl, hcs, ← Nat.add_mul]; exact Nat.mul_le_mul_right _ hroom
      have hq := run_append_room (P := P) w t ty e i ht hi g n cap cur hg a m c news hl hnews h1 hroom hfit
      rw [hq] at hr
      obtain ⟨rfl, rfl⟩ : _ = v' ∧ _ = w' := by simpa using hr
      exact Or.inl rfl
    · have holds : ∀ j u, xs[j]? = some u → w.cell? ((⟨g, 0, none⟩ : Addr).add j) = some u := hown.cells (g := g) rfl
      have hq := run_append_grow (P := P) w t ty e i z ht hi hz ⟨g, 0, none⟩ n cap xs hown.1 holds a m c news hl hnews (by omega) (by omega) (growslice_fits (by omega) hbytes)
      rw [hq] at hr
      obtain ⟨rfl, rfl⟩ : _ = v' ∧ _ = w' := by simpa using hr
      exact Or.inr rfl

/-- The law on append with that word besides: what is owned behind it, and in which block. -/
theorem wpList_append_at {P : Program} (w : World) {ops : Array Oper} {rest : List Oper} {o : Oper} {a : Act} {Q : Exit → Act → World → Prop} (hgd : o.guard = none) (s x : Operand) (t : TypeId)
    (ho : o.op = .call { callee := .builtin .append, args := #[s, x], argTypes := #[t, t] })
    (base : Nat) (e : TypeId) (i : TypeInfo) (z : Value) (size bytes : Nat) (ht : P.underlying t = some (.slice e)) (hi : P.info? e = some i) (hz : i.zero = some z)
    (hsize : i.size = size) (hby : i.bytes = bytes) (hzs : z.cells.size = size) (hsz : 0 < size)
    (v : Value) (n : Nat) (xs : List Value) (hs : a.eval s = v) (hown : w.ownsRow base e size v n xs)
    (ad : Addr) (m c : Nat) (news : List Value) (hx : a.eval x = .slice (some ad) m c) (hl : news.length = m * size) (hnews : ∀ j u, news[j]? = some u → w.cell? (ad.add j) = some u) (h1 : ∀ u ∈ news, u.oneCell' = true) (hm : 0 < m)
    (h63 : n + m ≤ maxLen) (hbytes : (n + m) * bytes ≤ 140737488355328) (hbase : base ≤ w.heap.size)
    (h : ∀ v' w', w'.ownsRow base e size v' (n + m) (xs ++ news) → w.grownBy w' v.ownBlock → (v'.ownBlock = v.ownBlock ∨ v'.ownBlock = some w.heap.size) → (∃ g k, v' = .slice (some ⟨g, 0, none⟩) (n + m) k) → wpList P ops Q rest (a.put o.dst v') w') :
    wpList P ops Q (o :: rest) a w := by
  refine wpList_plain hgd fun K hK => ?_
  obtain ⟨v', w', hr, h2, h3, h4⟩ := run_append_own (P := P) w base t o.type e i z size bytes ht hi hz hsize hby hzs hsz v n xs hown ad m c news hl hnews h1 h63 hbytes hbase
  have hw := run_append_where (P := P) w base t o.type e i z size bytes ht hi hz hsize hby hsz v n xs hown ad m c news hl hnews h1 hm h63 hbytes v' w' hr
  have hv : ∃ g k, v' = .slice (some ⟨g, 0, none⟩) (n + m) k := by
    rcases h2.2 with ⟨hn, hk⟩ | ⟨g, k, cur, hv, _⟩
    · omega
    · exact ⟨g, k, hv⟩
  unfold Oper.wp execOp
  simp only [ho, resolve, invoke, builtin, Sem.run_bind, Sem.run_pure, Result.andThen_ok, List.map_toArray, List.map_cons, List.map_nil, hs, hx, hr]
  exact hK _ _ (h v' w' h2 h3 hw hv)

/-- The cells of a list of heads. -/
def two (l : List Hd) : List Value := l.flatMap fun x => [.string x.a, .slice x.p x.l x.c]
theorem two_length (l : List Hd) : (two l).length = l.length * 2 := by
  unfold two; induction l with
  | nil => rfl
  | cons x l ih => simp only [List.flatMap_cons, List.length_append, List.length_cons, List.length_nil, ih]; omega
theorem two_get (l : List Hd) : ∀ (i : Nat) (x : Hd), l[i]? = some x → (two l)[i * 2]? = some (.string x.a) ∧ (two l)[i * 2 + 1]? = some (.slice x.p x.l x.c) := by
  induction l with
  | nil => intro i x h; simp at h
  | cons y l ih =>
    intro i x h
    cases i with
    | zero => simp at h; subst h; simp [two]
    | succ i =>
      have := ih i x (by simpa using h)
      have e1 : (i + 1) * 2 = i * 2 + 1 + 1 := by omega
      have e2 : two (y :: l) = .string y.a :: .slice y.p y.l y.c :: two l := by simp [two]
      rw [e1, e2]; simpa using this
theorem two_snoc (l : List Hd) (x : Hd) : two l ++ [.string x.a, .slice x.p x.l x.c] = two (l ++ [x]) := by simp [two]

/-- The parts that have been gathered so far in a slice of the call's own. -/
def AccIn (w : World) (base : Nat) (e : TypeId) (v : Value) (acc : List Tree) : Prop :=
  ∃ ab : List Hd, ab.length = acc.length ∧ w.ownsRow base e 2 v acc.length (two ab) ∧
    ∀ (i : Nat) (p : Tree) (x : Hd), acc[i]? = some p → ab[i]? = some x → TIn w (fun b => base ≤ b ∧ v.ownBlock ≠ some b) p x

theorem AccIn.nil (w : World) (base : Nat) (e : TypeId) : AccIn w base e (.slice none 0 0) [] :=
  ⟨[], rfl, World.ownsRow_nil _ _ _ _, fun i p x h => by simp at h⟩

theorem Below.grownBy {B : Nat} {w w' : World} (h : Below B w w') {n : Option Nat} (hB : w.heap.size ≤ B) : w.grownBy w' n :=
  ⟨h.os, h.tape, h.output, h.size, fun k hk _ => h.block k (by omega)⟩

theorem AccIn.under {w w' : World} {base : Nat} {e : TypeId} {v : Value} {acc : List Tree} (h : AccIn w base e v acc) (hb : Below w.heap.size w w') : AccIn w' base e v acc := by
  obtain ⟨ab, hl, hown, ht⟩ := h
  refine ⟨ab, hl, ?_, fun i p x hp hx => (ht i p x hp hx).under hb fun _ _ hk => hk⟩
  exact hown.kept (row := none) (Below.grownBy hb (Nat.le_refl _)) (by cases v.ownBlock <;> simp)

/-- A block below those of the gathered may be written. -/
theorem AccIn.setCell {w : World} {base : Nat} {e : TypeId} {v : Value} {acc : List Tree} (h : AccIn w base e v acc) {a : Addr} (ha : a.block < base) (u : Value) : AccIn (w.setCell a u) base e v acc := by
  obtain ⟨ab, hl, hown, ht⟩ := h
  refine ⟨ab, hl, ownsRow_setCell_below hown ha u, fun i p x hp hx => (ht i p x hp hx).keep (fun k hk _ => Below.heap_setCell _ _ _ _ (by have := hk.1; omega)) fun _ hk _ => hk⟩

/-- One more part has been gathered: behind the law on append. -/
theorem AccIn.snoc {w w' : World} {base : Nat} {e : TypeId} {v v' : Value} {acc : List Tree} {ab : List Hd} {p : Tree} {a : Hd}
    (hl : ab.length = acc.length) (ht : ∀ (i : Nat) (p : Tree) (x : Hd), acc[i]? = some p → ab[i]? = some x → TIn w (fun b => base ≤ b ∧ v.ownBlock ≠ some b) p x)
    (hn : TIn w (fun b => base ≤ b ∧ v.ownBlock ≠ some b) p a)
    (hown : w'.ownsRow base e 2 v' (acc.length + 1) (two ab ++ [.string a.a, .slice a.p a.l a.c])) (hg : w.grownBy w' v.ownBlock) (hw : v'.ownBlock = v.ownBlock ∨ v'.ownBlock = some w.heap.size) : AccIn w' base e v' (acc ++ [p]) := by
  have hk : ∀ {q : Tree} {x : Hd}, TIn w (fun b => base ≤ b ∧ v.ownBlock ≠ some b) q x → TIn w' (fun b => base ≤ b ∧ v'.ownBlock ≠ some b) q x := by
    intro q x h
    refine h.keep (fun k hk hlt => hg.block k hlt fun e => hk.2 e.symm) fun k hk hlt => ⟨hk.1, ?_⟩
    rcases hw with hw | hw
    · rw [hw]; exact hk.2
    · rw [hw]; intro e; have := Option.some.inj e; omega
  refine ⟨ab ++ [a], by simp [hl], ?_, fun i q x hq hx => ?_⟩
  · rw [← two_snoc]; simpa using hown
  · by_cases hi : i < acc.length
    · rw [List.getElem?_append_left hi] at hq
      rw [List.getElem?_append_left (by omega)] at hx
      exact hk (ht i q x hq hx)
    · have hi2 : i = acc.length := by
        have := (List.getElem?_eq_some_iff.1 hq).1
        simp at this; omega
      subst hi2
      simp at hq
      rw [← hl] at hx; simp at hx
      subst hq; subst hx
      exact hk hn

/-- What has been gathered is a tree. -/
theorem AccIn.node {w : World} {base : Nat} {e : TypeId} {p : Option Addr} {l c : Nat} {acc : List Tree} (h : AccIn w base e (.slice p l c) acc) (h0 : 0 < acc.length) : TIn w (fun b => base ≤ b) (.node acc) ⟨ByteArray.empty, p, l, c⟩ := by
  obtain ⟨ab, hl, hown, ht⟩ := h
  rcases hown.2 with ⟨_, hn⟩ | ⟨g, cap, cur, hv, hbg, hg, hnc, hcm, hcs, htake⟩
  · omega
  obtain ⟨rfl, rfl, rfl⟩ : p = some ⟨g, 0, none⟩ ∧ l = acc.length ∧ c = cap := by simpa using hv
  have hc : ∀ j u, (two ab)[j]? = some u → w.cell? ((⟨g, 0, none⟩ : Addr).add j) = some u := hown.cells (g := g) rfl
  have hadd : ∀ j, (⟨g, 0, none⟩ : Addr).add j = ⟨g, j, none⟩ := by intro j; unfold Addr.add; split <;> simp_all
  have hx : ∀ i, i < acc.length → ∃ x, ab[i]? = some x := fun i hi => ⟨ab[i]'(by omega), List.getElem?_eq_getElem (by omega)⟩
  refine .node acc g c (fun i => (ab[i]?).getD default) h0 hnc hcm hbg (fun i hi => ?_) (fun i hi => ?_) (fun i p hp => ?_)
  · obtain ⟨x, hx⟩ := hx i hi
    have := hc (i * 2) _ (two_get ab i x hx).1
    rw [hadd] at this; rw [hx]; exact this
  · obtain ⟨x, hx⟩ := hx i hi
    have := hc (i * 2 + 1) _ (two_get ab i x hx).2
    rw [hadd] at this; rw [hx]; exact this
  · obtain ⟨x, hx⟩ := hx i (List.getElem?_eq_some_iff.1 hp).1
    have := ht i p x hp hx
    rw [hx]; exact this.keep (fun _ _ _ => rfl) fun k hk _ => hk.1

/-- The cells of a block of two cells; that they may be written; the block behind a store. -/
theorem cells_of_pair {w : World} {b : Nat} {x y : Value} {t : TypeId} (h : w.heap[b]? = some (.cells #[x, y] t (0, 0))) :
    w.cell? ⟨b, 0, none⟩ = some x ∧ w.cell? ⟨b, 1, none⟩ = some y ∧ w.frozen? ⟨b, 0, none⟩ = false ∧ w.frozen? ⟨b, 1, none⟩ = false := by
  simp [World.cell?, World.frozen?, h]
theorem pair_setCell0 {w : World} {b : Nat} {x y u : Value} {t : TypeId} (h : w.heap[b]? = some (.cells #[x, y] t (0, 0))) : (w.setCell ⟨b, 0, none⟩ u).heap[b]? = some (.cells #[u, y] t (0, 0)) := by
  have hlt := lt_of_block h
  have h' : w.heap[b] = .cells #[x, y] t (0, 0) := by simpa [Array.getElem?_eq_getElem hlt] using h
  show (w.heap.modify b _)[b]? = _
  rw [Array.getElem?_eq_getElem (by simpa using hlt), Array.getElem_modify_self, h']
  rfl
theorem pair_setCell1 {w : World} {b : Nat} {x y u : Value} {t : TypeId} (h : w.heap[b]? = some (.cells #[x, y] t (0, 0))) : (w.setCell ⟨b, 1, none⟩ u).heap[b]? = some (.cells #[x, u] t (0, 0)) := by
  have hlt := lt_of_block h
  have h' : w.heap[b] = .cells #[x, y] t (0, 0) := by simpa [Array.getElem?_eq_getElem hlt] using h
  show (w.heap.modify b _)[b]? = _
  rw [Array.getElem?_eq_getElem (by simpa using hlt), Array.getElem_modify_self, h']
  rfl

/-- The same behind a new block. -/
theorem pair_alloc {w : World} {b : Nat} {x y : Value} {t : TypeId} (h : w.heap[b]? = some (.cells #[x, y] t (0, 0))) (o : Obj) : (w.alloc o).heap[b]? = some (.cells #[x, y] t (0, 0)) :=
  (heap_alloc_old w o (lt_of_block h)).trans h
theorem block_below {w w' : World} {B b : Nat} {o : Obj} (h : w.heap[b]? = some o) (hb : Below B w w') (hB : b < B) : w'.heap[b]? = some o := (hb.block b hB).trans h
theorem block_grown {w w' : World} {r : Option Nat} {b : Nat} {o : Obj} (h : w.heap[b]? = some o) (hg : w.grownBy w' r) (hr : r ≠ some b) : w'.heap[b]? = some o := (hg.block b (lt_of_block h) fun e => hr e.symm).trans h

theorem ownsRow_under {w w' : World} {base : Nat} {e : TypeId} {size : Nat} {v : Value} {n : Nat} {xs : List Value} (h : w.ownsRow base e size v n xs) (hb : Below w.heap.size w w') : w'.ownsRow base e size v n xs :=
  h.kept (row := none) (Below.grownBy hb (Nat.le_refl _)) (by cases v.ownBlock <;> simp)
/-- The cells of a block of two cells that has just been made. -/
theorem cells_new2 (w : World) (x y : Value) (t : TypeId) (n : Nat) (hn : n = w.heap.size) : ∀ j u, [x, y][j]? = some u → (w.alloc (.cells #[x, y] t)).cell? ((⟨n, 0, none⟩ : Addr).add j) = some u := by
  subst hn
  intro j u h
  have hc := cells_of_pair (heap_alloc_new w (.cells #[x, y] t))
  match j, h with
  | 0, h => simp at h; subst h; exact hc.1
  | 1, h => simp at h; subst h; exact hc.2.1
/-- One more part: in one word, with the world in which the append is run two new blocks behind that in which the part was read. -/
theorem AccIn.more {w1 wa w' : World} {base : Nat} {e : TypeId} {v v' : Value} {acc : List Tree} {ab : List Hd} {p : Tree} {a : Hd} {wr : World}
    (hl : ab.length = acc.length) (ht : ∀ (i : Nat) (p : Tree) (x : Hd), acc[i]? = some p → ab[i]? = some x → TIn wr (fun b => base ≤ b ∧ v.ownBlock ≠ some b) p x)
    (howns : wr.ownsRow base e 2 v acc.length (two ab)) (hbase : base ≤ wr.heap.size)
    (hb1 : Below wr.heap.size wr w1) (hn : TIn w1 (fun b => wr.heap.size ≤ b) p a) (hba : Below w1.heap.size w1 wa)
    (hown : w'.ownsRow base e 2 v' (acc.length + 1) (two ab ++ [.string a.a, .slice a.p a.l a.c])) (hg : wa.grownBy w' v.ownBlock) (hw : v'.ownBlock = v.ownBlock ∨ v'.ownBlock = some wa.heap.size) : AccIn w' base e v' (acc ++ [p]) := by
  have hlt := howns.lt
  have h1 := hb1.size
  refine AccIn.snoc (w := wa) hl (fun i q x hq hx => ?_) ?_ hown hg hw
  · exact ((ht i q x hq hx).under hb1 fun _ _ hk => hk).under hba fun _ _ hk => hk
  · refine (hn.under hba fun _ _ hk => hk).keep (fun _ _ _ => rfl) fun k hk _ => ⟨by omega, fun e => ?_⟩
    have := hlt k e; omega

theorem heap_new (w : World) (o : Obj) (n : Nat) (h : n = w.heap.size) : (w.alloc o).heap[n]? = some o := h ▸ heap_alloc_new w o
theorem AccIn.len {w : World} {base : Nat} {e : TypeId} {p : Option Addr} {l c : Nat} {acc : List Tree} (h : AccIn w base e (.slice p l c) acc) : l = acc.length := by
  obtain ⟨ab, hl, hown, ht⟩ := h
  rcases hown.2 with ⟨hv, hn⟩ | ⟨g, cap, cur, hv, _⟩
  · simp at hv; omega
  · simp at hv; exact hv.2.1
theorem cells_new1 (w : World) (x : Value) (t : TypeId) (n : Nat) (hn : n = w.heap.size) : ∀ j u, [x][j]? = some u → (w.alloc (.cells #[x] t)).cell? ((⟨n, 0, none⟩ : Addr).add j) = some u := by
  subst hn
  intro j u h
  match j, h with
  | 0, h => simp at h; subst h; exact cell_of_one (heap_alloc_new w (.cells #[x] t))

end Go.Proofs.YtfogjomebcponaaDoor
