/- Source expressions in the program's memory, finished and under construction. -/
import Derived.Test.YtinlibkkbjfmeaaDoorSxP
import Derived.Test.YtinlibkkbjfmeaaDoorSrcK
import Derived.Test.YtinlibkkbjfmeaaDoorNodeR
namespace Go.Proofs.YtinlibkkbjfmeaaDoor
open Go.RowKit

/-- A source type behind a pointer, or none. -/
def SyIn (w : World) (S : Nat → Prop) (o : Option STy) (v : Value) : Prop := match o with
  | none => v = .pointer none
  | some s => ∃ a : Nat, v = .pointer (some ⟨a, 0, none⟩) ∧ SIn w S s a
theorem SyIn.keep {w w' : World} {S S' : Nat → Prop} {o : Option STy} {v : Value} (h : SyIn w S o v) (hb : ∀ k, S k → k < w.heap.size → w'.heap[k]? = w.heap[k]?) (hS : ∀ k, S k → k < w.heap.size → S' k) : SyIn w' S' o v := by
  cases o with
  | none => exact h
  | some s => obtain ⟨a, e, hs⟩ := h; exact ⟨a, e, hs.keep hb hS⟩
theorem SyIn.one {w : World} {S : Nat → Prop} {o : Option STy} {v : Value} (h : SyIn w S o v) : ∃ p, v = .pointer p := by
  cases o with
  | none => exact ⟨none, h⟩
  | some s => obtain ⟨a, e, _⟩ := h; exact ⟨_, e⟩
/-- An expression's node in memory. 'S': which blocks it lies in. -/
inductive XIn (w : World) (S : Nat → Prop) : Sx → Nat → Prop
  | mk (e : Sx) (b : Nat) (tp : Value) (kp : Option Addr) (kl kc : Nat) (A : Nat → Nat) (hS : S b)
      (hb : w.heap[b]? = some (.cells #[.string e.head, .string e.atom, .string e.nm, tp, .slice kp kl kc] 61 (0, 0)))
      (hty : SyIn w S e.ty tp) (hkl : e.kids.length = kl) (hkc : kl ≤ kc) (hkv : RIn w S kp (ptrs A kl))
      (hks : ∀ i k, e.kids[i]? = some k → XIn w S k (A i)) : XIn w S e b
theorem XIn.keep {w w' : World} {S S' : Nat → Prop} {e : Sx} {b : Nat} (h : XIn w S e b) (hb : ∀ k, S k → k < w.heap.size → w'.heap[k]? = w.heap[k]?) (hS : ∀ k, S k → k < w.heap.size → S' k) : XIn w' S' e b := by
  induction h with
  | mk e b tp kp kl kc A hS0 hb0 hty hkl hkc hkv hks ih =>
    have hlt := lt_of_block hb0
    exact .mk e b tp kp kl kc A (hS b hS0 hlt) ((hb b hS0 hlt).trans hb0) (hty.keep hb hS) hkl hkc (hkv.keep hb hS) ih
theorem XIn.kept {w w' : World} {S : Nat → Prop} {e : Sx} {b : Nat} (h : XIn w S e b) (hk : Kept w w') : XIn w' S e b := h.keep (fun k _ hl => hk k hl) (fun _ h _ => h)
theorem XIn.wide {w : World} {S S' : Nat → Prop} {e : Sx} {b : Nat} (h : XIn w S e b) (hS : ∀ k, S k → S' k) : XIn w S' e b := h.keep (fun _ _ _ => rfl) (fun k h _ => hS k h)
theorem XIn.lt {w : World} {S : Nat → Prop} {e : Sx} {b : Nat} (h : XIn w S e b) : S b ∧ b < w.heap.size := by
  cases h with
  | mk _ _ tp kp kl kc A hS hb => exact ⟨hS, lt_of_block hb⟩

theorem Tryd.infoSrc : (Tryd.prog.info? 36).map (fun i => (i.zero, i.size, i.bytes)) = some (some (.pointer none), 1, 8) := by kernel_rfl
/-- A node's block, whose row of parts is the call's own. -/
structure B7At (w : World) (b : Nat) (hd : ByteArray) (st : Sst) (tp : Value) (kp : Option Addr) (kl kc : Nat) (A : Nat → Nat) : Prop where
  heap : w.heap[b]? = some (.cells #[.string hd, .string ByteArray.empty, .string st.nm, tp, .slice kp kl kc] 61 (0, 0))
  typ : SyIn w (fun x => b + 1 ≤ x ∧ (Value.slice kp kl kc).ownBlock ≠ some x) st.ty tp
  kids : w.ownsRow (b + 1) 36 1 (.slice kp kl kc) kl (ptrs A kl)
  hkl : st.ks.length = kl
  nodes : ∀ i k, st.ks[i]? = some k → XIn w (fun x => b + 1 ≤ x ∧ (Value.slice kp kl kc).ownBlock ≠ some x) k (A i)
def B7 (w : World) (b : Nat) (hd : ByteArray) (st : Sst) : Prop := ∃ tp kp kl kc A, B7At w b hd st tp kp kl kc A
theorem B7At.under {w w' : World} {b : Nat} {hd : ByteArray} {st : Sst} {tp : Value} {kp : Option Addr} {kl kc : Nat} {A : Nat → Nat} (h : B7At w b hd st tp kp kl kc A) (hb : Below w.heap.size w w') : B7At w' b hd st tp kp kl kc A :=
  ⟨block_below h.heap hb (lt_of_block h.heap), h.typ.keep (fun x _ hl => hb.block x hl) (fun _ hx _ => hx), ownsRow_under h.kids hb, h.hkl, fun i k hk => (h.nodes i k hk).keep (fun x _ hl => hb.block x hl) (fun _ hx _ => hx)⟩
theorem B7.under {w w' : World} {b : Nat} {hd : ByteArray} {st : Sst} (h : B7 w b hd st) (hb : Below w.heap.size w w') : B7 w' b hd st := by
  obtain ⟨tp, kp, kl, kc, A, H⟩ := h
  exact ⟨tp, kp, kl, kc, A, H.under hb⟩
theorem B7.lt {w : World} {b : Nat} {hd : ByteArray} {st : Sst} (h : B7 w b hd st) : b < w.heap.size := by
  obtain ⟨tp, kp, kl, kc, A, H⟩ := h
  exact lt_of_block H.heap
theorem B7At.start (w : World) (hd : ByteArray) (b : Nat) (hb : b = w.heap.size) : B7At (w.alloc (.cells #[.string hd, .string ByteArray.empty, .string ByteArray.empty, .pointer none, .slice none 0 0] 61)) b hd Sst.none (.pointer none) none 0 0 (fun _ => 0) :=
  ⟨heap_new _ _ _ hb, rfl, World.ownsRow_nil _ _ _ _, rfl, fun i k h => by simp [Sst.none] at h⟩
theorem cells_of_5 {w : World} {b : Nat} {x0 x1 x2 x3 x4 : Value} {t : TypeId} (h : w.heap[b]? = some (.cells #[x0, x1, x2, x3, x4] t (0, 0))) :
    w.cell? ⟨b, 0, none⟩ = some x0 ∧ w.cell? ⟨b, 1, none⟩ = some x1 ∧ w.cell? ⟨b, 2, none⟩ = some x2 ∧ w.cell? ⟨b, 3, none⟩ = some x3 ∧ w.cell? ⟨b, 4, none⟩ = some x4 ∧
    w.frozen? ⟨b, 2, none⟩ = false ∧ w.frozen? ⟨b, 3, none⟩ = false ∧ w.frozen? ⟨b, 4, none⟩ = false := by
  simp [World.cell?, World.frozen?, h]
theorem set_five {w : World} {b : Nat} {x0 x1 x2 x3 x4 u : Value} {t : TypeId} (h : w.heap[b]? = some (.cells #[x0, x1, x2, x3, x4] t (0, 0))) :
    (w.setCell ⟨b, 2, none⟩ u).heap[b]? = some (.cells #[x0, x1, u, x3, x4] t (0, 0)) ∧ (w.setCell ⟨b, 3, none⟩ u).heap[b]? = some (.cells #[x0, x1, x2, u, x4] t (0, 0)) ∧ (w.setCell ⟨b, 4, none⟩ u).heap[b]? = some (.cells #[x0, x1, x2, x3, u] t (0, 0)) := by
  have hlt := lt_of_block h
  have h' : w.heap[b] = .cells #[x0, x1, x2, x3, x4] t (0, 0) := by simpa [Array.getElem?_eq_getElem hlt] using h
  refine ⟨?_, ?_, ?_⟩
  · show (w.heap.modify b _)[b]? = _
    rw [Array.getElem?_eq_getElem (by simpa using hlt), Array.getElem_modify_self, h']; rfl
  · show (w.heap.modify b _)[b]? = _
    rw [Array.getElem?_eq_getElem (by simpa using hlt), Array.getElem_modify_self, h']; rfl
  · show (w.heap.modify b _)[b]? = _
    rw [Array.getElem?_eq_getElem (by simpa using hlt), Array.getElem_modify_self, h']; rfl
/-- The name is set. -/
theorem B7At.name {w : World} {b : Nat} {hd : ByteArray} {st : Sst} {tp : Value} {kp : Option Addr} {kl kc : Nat} {A : Nat → Nat} (h : B7At w b hd st tp kp kl kc A) (s : ByteArray) :
    B7At (w.setCell ⟨b, 2, none⟩ (.string s)) b hd ⟨s, st.ty, st.ks⟩ tp kp kl kc A := by
  have hset : ∀ k, b + 1 ≤ k → (w.setCell ⟨b, 2, none⟩ (.string s)).heap[k]? = w.heap[k]? := fun k hk => Below.heap_setCell _ _ _ _ (by show k ≠ b; omega)
  exact ⟨(set_five h.heap).1, h.typ.keep (fun x hx _ => hset x hx.1) (fun _ hx _ => hx), ownsRow_setCell_below h.kids (by show b < b + 1; omega) _, h.hkl, fun i k hik => (h.nodes i k hik).keep (fun x hx _ => hset x hx.1) (fun _ hx _ => hx)⟩
/-- The type is set. -/
theorem B7At.type {w : World} {b : Nat} {hd : ByteArray} {st : Sst} {tp : Value} {kp : Option Addr} {kl kc : Nat} {A : Nat → Nat} (h : B7At w b hd st tp kp kl kc A) {s : STy} {a : Nat} (hs : SIn w (fun x => b + 1 ≤ x ∧ (Value.slice kp kl kc).ownBlock ≠ some x) s a) :
    B7At (w.setCell ⟨b, 3, none⟩ (.pointer (some ⟨a, 0, none⟩))) b hd ⟨st.nm, some s, st.ks⟩ (.pointer (some ⟨a, 0, none⟩)) kp kl kc A := by
  have hset : ∀ k, b + 1 ≤ k → (w.setCell ⟨b, 3, none⟩ (.pointer (some ⟨a, 0, none⟩))).heap[k]? = w.heap[k]? := fun k hk => Below.heap_setCell _ _ _ _ (by show k ≠ b; omega)
  exact ⟨(set_five h.heap).2.1, ⟨a, rfl, hs.keep (fun x hx _ => hset x hx.1) (fun _ hx _ => hx)⟩, ownsRow_setCell_below h.kids (by show b < b + 1; omega) _, h.hkl, fun i k hik => (h.nodes i k hik).keep (fun x hx _ => hset x hx.1) (fun _ hx _ => hx)⟩
/-- One more part. -/
theorem B7At.kid {w w2 : World} {b a : Nat} {hd : ByteArray} {m : Sx} {st : Sst} {tp : Value} {kp kp' : Option Addr} {kl kc kc' : Nat} {A : Nat → Nat} (h : B7At w b hd st tp kp kl kc A)
    (hn : XIn w (fun x => b + 1 ≤ x ∧ (Value.slice kp kl kc).ownBlock ≠ some x) m a)
    (hown : w2.ownsRow (b + 1) 36 1 (.slice kp' (kl + 1) kc') (kl + 1) (ptrs A kl ++ [.pointer (some ⟨a, 0, none⟩)])) (hg : w.grownBy w2 (Value.slice kp kl kc).ownBlock)
    (hw : (Value.slice kp' (kl + 1) kc').ownBlock = (Value.slice kp kl kc).ownBlock ∨ (Value.slice kp' (kl + 1) kc').ownBlock = some w.heap.size) :
    B7At (w2.setCell ⟨b, 4, none⟩ (.slice kp' (kl + 1) kc')) b hd ⟨st.nm, st.ty, st.ks ++ [m]⟩ tp kp' (kl + 1) kc' (fun i => if i = kl then a else A i) := by
  have hko : (Value.slice kp kl kc).ownBlock ≠ some b := fun e => by have := (h.kids.lt b e).1; omega
  have hb2 := block_grown h.heap hg hko
  have hset : ∀ k, b + 1 ≤ k → (w2.setCell ⟨b, 4, none⟩ (.slice kp' (kl + 1) kc')).heap[k]? = w2.heap[k]? := fun k hk => Below.heap_setCell _ _ _ _ (by show k ≠ b; omega)
  have hk1 : ∀ y, (b + 1 ≤ y ∧ (Value.slice kp kl kc).ownBlock ≠ some y) → y < w.heap.size → (w2.setCell ⟨b, 4, none⟩ (.slice kp' (kl + 1) kc')).heap[y]? = w.heap[y]? := by
    intro y hy hl
    rw [hset y hy.1]; exact hg.block y hl (fun e => hy.2 e.symm)
  have hk2 : ∀ y, (b + 1 ≤ y ∧ (Value.slice kp kl kc).ownBlock ≠ some y) → y < w.heap.size → (b + 1 ≤ y ∧ (Value.slice kp' (kl + 1) kc').ownBlock ≠ some y) := by
    intro y hy hl
    refine ⟨hy.1, ?_⟩
    rcases hw with e | e
    · rw [e]; exact hy.2
    · rw [e]; intro e2; have := Option.some.inj e2; omega
  refine ⟨(set_five hb2).2.2, h.typ.keep hk1 hk2, ?_, by simp [h.hkl], ?_⟩
  · rw [ptrs_snoc]; exact ownsRow_setCell_below hown (by show b < b + 1; omega) _
  · intro i k hik
    by_cases hi : i < st.ks.length
    · rw [List.getElem?_append_left hi] at hik
      have : (if i = kl then a else A i) = A i := if_neg (by have := h.hkl; omega)
      rw [this]; exact (h.nodes i k hik).keep hk1 hk2
    · have hi2 : i = st.ks.length := by
        have := (List.getElem?_eq_some_iff.1 hik).1
        simp at this; omega
      subst hi2
      simp at hik; subst hik
      have : (if st.ks.length = kl then a else A st.ks.length) = a := if_pos h.hkl
      rw [this]; exact hn.keep hk1 hk2
theorem toList_inj {a b : ByteArray} (h : a.toList = b.toList) : a = b := by
  exact (bytes_of_toList h).trans (bytes_of_toList (a := b) rfl).symm
/-- A finished expression. -/
theorem B7At.done {w : World} {b : Nat} {hd : ByteArray} {st : Sst} {tp : Value} {kp : Option Addr} {kl kc : Nat} {A : Nat → Nat} (h : B7At w b hd st tp kp kl kc A) {e : Sx}
    (e1 : e.head.toList = hd.toList) (e2 : e.atom = ByteArray.empty) (e3 : e.nm = st.nm) (e4 : e.ty = st.ty) (e5 : e.kids = st.ks) : XIn w (fun k => b ≤ k) e b := by
  refine .mk e b tp kp kl kc A (Nat.le_refl _) (by rw [toList_inj e1, e2, e3]; exact h.heap) (by rw [e4]; exact h.typ.keep (fun _ _ _ => rfl) (fun x hx _ => by omega)) (by rw [e5]; exact h.hkl) (own_cap h.kids) ?_ (fun i k hik => by rw [e5] at hik; exact (h.nodes i k hik).keep (fun _ _ _ => rfl) (fun x hx _ => by omega))
  intro i v hv
  rcases h.kids.2 with ⟨hv2, hn⟩ | ⟨g, cap, cur, hv2, hbg, _⟩
  · have := (List.getElem?_eq_some_iff.1 hv).1
    rw [ptrs_length] at this; omega
  · obtain ⟨rfl, _⟩ : kp = some ⟨g, 0, none⟩ ∧ kc = cap := by simp at hv2; exact hv2
    have hc := h.kids.cells (g := g) rfl i v hv
    have hadd : (⟨g, 0, none⟩ : Addr).add i = ⟨g, i, none⟩ := by unfold Addr.add; split <;> simp_all
    rw [hadd] at hc
    exact ⟨g, rfl, by omega, hc⟩
theorem B7.done {w : World} {b B : Nat} {hd : ByteArray} {st : Sst} (h : B7 w b hd st) (hB : B ≤ b) {e : Sx} (e1 : e.head.toList = hd.toList) (e2 : e.atom = ByteArray.empty) (e3 : e.nm = st.nm) (e4 : e.ty = st.ty) (e5 : e.kids = st.ks) : XIn w (fun k => B ≤ k) e b := by
  obtain ⟨tp, kp, kl, kc, A, H⟩ := h
  exact (H.done e1 e2 e3 e4 e5).wide (fun k hk => by omega)

theorem pair_alloc5 {w : World} {b : Nat} {o1 : Obj} (h : w.heap[b]? = some o1) (o : Obj) : (w.alloc o).heap[b]? = some o1 := (heap_alloc_old w o (lt_of_block h)).trans h
/-- What adding a part leaves. -/
def P7Post (o : Option Sst) (b : Nat) (hd : ByteArray) (w : World) (e : Ending) (w' : World) : Prop :=
  Below b w w' ∧ match o with
    | some st => e = .returned (.bool true) ∧ B7 w' b hd st
    | none => e = .returned (.bool false)
theorem P7Post.none {b : Nat} {hd : ByteArray} {w w' : World} {e : Ending} (h : P7Post Option.none b hd w e w') : e = .returned (.bool false) ∧ Below b w w' := ⟨h.2, h.1⟩
theorem P7Post.some {b : Nat} {hd : ByteArray} {w w' : World} {e : Ending} {st : Sst} (h : P7Post (Option.some st) b hd w e w') : e = .returned (.bool true) ∧ Below b w w' ∧ B7 w' b hd st := ⟨h.2.1, h.1, h.2.2⟩
/-- What sourceOf leaves. -/
def X7Post (o : Option Sx) (w : World) (e : Ending) (w' : World) : Prop :=
  Below w.heap.size w w' ∧ match o with
    | some m => ∃ a : Nat, e = .returned (.tuple #[.pointer (some ⟨a, 0, none⟩), .bool true]) ∧ XIn w' (fun k => w.heap.size ≤ k) m a
    | none => ∃ p, e = .returned (.tuple #[.pointer p, .bool false])
theorem X7Post.none {w w' : World} {e : Ending} (h : X7Post Option.none w e w') : ∃ p, e = .returned (.tuple #[.pointer p, .bool false]) ∧ Below w.heap.size w w' := let ⟨hb, p, he⟩ := h; ⟨p, he, hb⟩
theorem X7Post.some {w w' : World} {e : Ending} {m : Sx} (h : X7Post (Option.some m) w e w') : ∃ a : Nat, e = .returned (.tuple #[.pointer (Option.some ⟨a, 0, Option.none⟩), .bool true]) ∧ Below w.heap.size w w' ∧ XIn w' (fun k => w.heap.size ≤ k) m a :=
  let ⟨hb, a, he, hn⟩ := h; ⟨a, he, hb, hn⟩
theorem x7_none {w w' : World} {p : Option Addr} (h : Below w.heap.size w w') : X7Post none w (.returned (.tuple #[.pointer p, .bool false])) w' := ⟨h, p, rfl⟩
theorem x7_some {w w' : World} {m : Sx} {a : Nat} (h : Below w.heap.size w w') (hn : XIn w' (fun k => w.heap.size ≤ k) m a) : X7Post (some m) w (.returned (.tuple #[.pointer (some ⟨a, 0, none⟩), .bool true])) w' := ⟨h, a, rfl, hn⟩
end Go.Proofs.YtinlibkkbjfmeaaDoor
