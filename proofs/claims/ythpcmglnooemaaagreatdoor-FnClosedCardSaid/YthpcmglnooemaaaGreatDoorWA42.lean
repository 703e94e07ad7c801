/- Merged: WnP, WnQ, WnC, WnI, WnJ. -/
import Derived.Test.YthpcmglnooemaaaGreatDoorWA28
import Derived.Test.YthpcmglnooemaaaGreatDoorWA40
import Derived.Test.YthpcmglnooemaaaGreatDoorWA11
import Derived.Lib.Builder
import Derived.Test.YthpcmglnooemaaaGreatDoorWA23
import Derived.Deep.QuietTactic
import Derived.BigQuiet
namespace Go.Proofs.YthpcmglnooemaaaGreatDoor
open Go.RowKit

mutual
/-- The term with what a function makes of each name that stands as a value; the function is told how many names are bound around. -/
def Tm.wn (f : Nat → Tm → Tm) : Tm → Nat → Tm
  | .mk hd a d bs ty ks, n => if hd.toList = [110, 97, 109, 101] then f n (.mk hd a d bs ty ks) else .mk hd a d bs ty (Tm.wns f ks n bs.length)
def Tm.wns (f : Nat → Tm → Tm) : List Tm → Nat → Nat → List Tm
  | [], _, _ => []
  | k :: ks, n, l => Tm.wn f k (n + if ks.length = 0 then l else 0) :: Tm.wns f ks n l
end
theorem wns_length (f : Nat → Tm → Tm) (n l : Nat) : ∀ ks : List Tm, (Tm.wns f ks n l).length = ks.length
  | [] => by rw [Tm.wns]
  | k :: ks => by rw [Tm.wns, List.length_cons, List.length_cons, wns_length f n l ks]
theorem wns_at (f : Nat → Tm → Tm) (n l : Nat) : ∀ (ks : List Tm) (i : Nat) (k : Tm), ks[i]? = some k → (Tm.wns f ks n l)[i]? = some (Tm.wn f k (n + if i + 1 = ks.length then l else 0))
  | [], i, k, h => by simp at h
  | x :: ks, i, k, h => by
    rw [Tm.wns]
    cases i with
    | zero =>
      simp at h; subst h
      simp only [List.getElem?_cons_zero, List.length_cons]
      congr 2
      by_cases e : ks.length = 0
      · rw [if_pos e, if_pos (by omega)]
      · rw [if_neg e, if_neg (by omega)]
    | succ i =>
      simp only [List.getElem?_cons_succ] at h ⊢
      rw [wns_at f n l ks i k h]
      congr 3
      simp only [List.length_cons]
      by_cases e : i + 1 = ks.length
      · rw [if_pos e, if_pos (by omega)]
      · rw [if_neg e, if_neg (by omega)]
theorem wns_get (f : Nat → Tm → Tm) (n l : Nat) (ks : List Tm) (i : Nat) (m : Tm) (h : (Tm.wns f ks n l)[i]? = some m) : ∃ k, ks[i]? = some k ∧ m = Tm.wn f k (n + if i + 1 = ks.length then l else 0) := by
  have hl : i < ks.length := by rw [← wns_length f n l ks]; exact (List.getElem?_eq_some_iff.1 h).1
  refine ⟨ks[i], List.getElem?_eq_getElem hl, ?_⟩
  have := wns_at f n l ks i ks[i] (List.getElem?_eq_getElem hl)
  rw [h] at this
  exact Option.some.inj this
mutual
/-- Names have no parts. -/
def Tm.leafy : Tm → Prop
  | .mk hd _ _ _ _ ks => (hd.toList = [110, 97, 109, 101] → ks = []) ∧ Tm.leafies ks
def Tm.leafies : List Tm → Prop
  | [] => True
  | k :: ks => k.leafy ∧ Tm.leafies ks
end
theorem leafies_all {ks : List Tm} (h : ∀ k ∈ ks, k.leafy) : Tm.leafies ks := by
  induction ks with
  | nil => trivial
  | cons k ks ih => exact ⟨h k (List.mem_cons_self ..), ih fun x hx => h x (List.mem_cons_of_mem _ hx)⟩
/-- What is so of the terms of parts is so of a term's kids. -/
theorem parts_all (P : Tm → Prop) (ar : List ByteArray) : ∀ (cs : List Sg) (ps : List Tree) (st st' : St), (∀ p ∈ ps, ∀ bd m, p.tm bd = some m → P m) → (∀ k ∈ st.kids, P k) → Tree.parts ar cs ps st = some st' → ∀ k ∈ st'.kids, P k
  | [], ps, st, st', _, hk, h => by simp [Tree.parts] at h; subst h; exact hk
  | _ :: _, [], st, st', _, _, h => by rw [Tree.parts] at h; simp at h
  | c :: cs, p :: ps, st, st', hp, hk, h => by
    have hp' : ∀ p ∈ ps, ∀ bd m, p.tm bd = some m → P m := fun q hq => hp q (List.mem_cons_of_mem _ hq)
    have ha : ∀ m, p.tm (ar ++ st.binds) = some m → ∀ k ∈ st.kids ++ [m], P k := by
      intro m hm k hkm
      rcases List.mem_append.1 hkm with h1 | h1
      · exact hk k h1
      · simp at h1; subst h1; exact hp p (List.mem_cons_self ..) _ _ hm
    cases c with
    | X =>
      rw [Tree.parts] at h
      cases h1 : addX p.text st with
      | none => rw [h1] at h; simp at h
      | some st1 => rw [h1] at h; exact parts_all P ar cs ps st1 st' hp' (by rw [(addX_inv h1).2]; exact hk) h
    | A =>
      rw [Tree.parts] at h
      cases h1 : addT true p st with
      | none => rw [h1] at h; simp at h
      | some st1 => rw [h1] at h; obtain ⟨ty, _, h2⟩ := addT_inv h1; exact parts_all P ar cs ps st1 st' hp' (by rw [h2]; exact hk) h
    | C =>
      rw [Tree.parts] at h
      cases h1 : addT false p st with
      | none => rw [h1] at h; simp at h
      | some st1 => rw [h1] at h; obtain ⟨ty, _, h2⟩ := addT_inv h1; exact parts_all P ar cs ps st1 st' hp' (by rw [h2]; exact hk) h
    | V =>
      rw [Tree.parts] at h
      cases h1 : addK true (p.tm (ar ++ st.binds)) st with
      | none => rw [h1] at h; simp at h
      | some st1 => rw [h1] at h; obtain ⟨m, hm, h2⟩ := addK_inv h1; exact parts_all P ar cs ps st1 st' hp' (by rw [h2]; exact ha m hm) h
    | M =>
      rw [Tree.parts] at h
      cases h1 : addK false (p.tm (ar ++ st.binds)) st with
      | none => rw [h1] at h; simp at h
      | some st1 => rw [h1] at h; obtain ⟨m, hm, h2⟩ := addK_inv h1; exact parts_all P ar cs ps st1 st' hp' (by rw [h2]; exact ha m hm) h
theorem tm_leafy (t : Tree) (ar : List ByteArray) (m : Tm) (h : t.tm ar = some m) : m.leafy := by
  match t with
  | .atom s =>
    rw [Tree.tm, atomTm] at h
    split at h
    · simp at h; subst h; rw [Tm.leafy]; exact ⟨fun _ => rfl, trivial⟩
    · split at h
      · simp at h; subst h; rw [Tm.leafy]; exact ⟨fun _ => rfl, trivial⟩
      · simp at h
  | .node [] => rw [Tree.tm] at h; simp at h
  | .node (q :: ps) =>
    obtain ⟨st, h1, h2, h3, rfl⟩ := tm_node h
    rw [Tm.leafy]
    refine ⟨fun e => ?_, leafies_all (parts_all Tm.leafy ar _ ps St.none st (fun p hp bd m hm => tm_leafy p bd m hm) (fun k hk => by simp [St.none] at hk) h3)⟩
    rw [e] at h1
    exact absurd (by decide) h1
termination_by t
decreasing_by
  have := List.sizeOf_lt_of_mem hp
  simp; omega
/-- What put makes of a name. -/
def putF (s : List UInt8) (v : Tm) : Nat → Tm → Tm
  | _, .mk hd a d bs ty ks => if d = -1 ∧ a.toList = s then v else .mk hd a d bs ty ks
mutual
theorem wn_put (s : List UInt8) (v : Tm) : ∀ (m : Tm) (n : Nat), m.leafy → Tm.wn (putF s v) m n = Tm.put s v m
  | .mk hd a d bs ty ks, n, h => by
    rw [Tm.leafy] at h
    rw [Tm.wn, Tm.put]
    by_cases e : hd.toList = [110, 97, 109, 101]
    · rw [if_pos e, putF]
      by_cases e2 : d = -1 ∧ a.toList = s
      · rw [if_pos e2, if_pos ⟨e, e2⟩]
      · rw [if_neg e2, if_neg (fun c => e2 c.2), h.1 e, Tm.puts]
    · rw [if_neg e, if_neg (fun c => e c.1), wns_put s v ks n bs.length h.2]
theorem wns_put (s : List UInt8) (v : Tm) : ∀ (ks : List Tm) (n l : Nat), Tm.leafies ks → Tm.wns (putF s v) ks n l = Tm.puts s v ks
  | [], n, l, _ => by rw [Tm.wns, Tm.puts]
  | k :: ks, n, l, h => by
    rw [Tm.leafies] at h
    rw [Tm.wns, Tm.puts, wn_put s v k _ h.1, wns_put s v ks n l h.2]
end
end Go.Proofs.YthpcmglnooemaaaGreatDoor

namespace Go.Proofs.YthpcmglnooemaaaGreatDoor
open Go.RowKit

/-- Rows of pointers in a block of the call's own. -/
structure KOwn (w : World) (s0 g kl kc : Nat) (A : Nat → Nat) : Prop where
  hg : s0 ≤ g
  cap : kl ≤ kc
  cells : ∃ C t, w.heap[g]? = some (.cells C t (0, 0)) ∧ kl ≤ C.size ∧ ∀ j, j < kl → C[j]? = some (.pointer (some ⟨A j, 0, none⟩))
theorem KOwn.lt {w : World} {s0 g kl kc : Nat} {A : Nat → Nat} (h : KOwn w s0 g kl kc A) : g < w.heap.size := by
  obtain ⟨C, t, hc, _⟩ := h.cells
  exact lt_of_block hc
theorem KOwn.cell {w : World} {s0 g kl kc : Nat} {A : Nat → Nat} (h : KOwn w s0 g kl kc A) {j : Nat} (hj : j < kl) : w.cell? ⟨g, j, none⟩ = some (.pointer (some ⟨A j, 0, none⟩)) ∧ w.frozen? ⟨g, j, none⟩ = false := by
  obtain ⟨C, t, hc, hs, ha⟩ := h.cells
  have h1 := ha j hj
  constructor
  · simp [World.cell?, hc, h1]
  · simp [World.frozen?, hc]
theorem KOwn.keep {w w' : World} {s0 g kl kc : Nat} {A : Nat → Nat} (h : KOwn w s0 g kl kc A) (hb : w'.heap[g]? = w.heap[g]?) : KOwn w' s0 g kl kc A := by
  obtain ⟨C, t, hc, hs, ha⟩ := h.cells
  exact ⟨h.hg, h.cap, C, t, hb.trans hc, hs, ha⟩
theorem KOwn.set {w : World} {s0 g kl kc : Nat} {A : Nat → Nat} (h : KOwn w s0 g kl kc A) {i b : Nat} (hi : i < kl) : KOwn (w.setCell ⟨g, i, none⟩ (.pointer (some ⟨b, 0, none⟩))) s0 g kl kc (fun x => if x = i then b else A x) := by
  obtain ⟨C, t, hc, hs, ha⟩ := h.cells
  refine ⟨h.hg, h.cap, C.setIfInBounds i (.pointer (some ⟨b, 0, none⟩)), t, ?_, by simpa using hs, ?_⟩
  · show (w.heap.modify g _)[g]? = _
    rw [Array.getElem?_modify, if_pos rfl, hc]; rfl
  · intro j hj
    rw [Array.getElem?_setIfInBounds]
    by_cases e : i = j
    · subst e
      rw [if_pos rfl, if_pos (by omega)]; simp
    · rw [if_neg e, ha j hj]
      have : ¬ j = i := fun c => e c.symm
      simp [this]
theorem KOwn.ofRow {w : World} {s0 kl kc : Nat} {q : Option Addr} {e : TypeId} {A : Nat → Nat} (h : w.ownsRow s0 e 1 (.slice q kl kc) kl (ptrs A kl)) (hk : 0 < kl) : ∃ g, q = some ⟨g, 0, none⟩ ∧ KOwn w s0 g kl kc A := by
  have hl : kl ≤ kc := own_cap h
  rcases h.2 with ⟨hv, hn⟩ | ⟨g, cap, cur, hv, hbg, hg, hnc, hcm, hcs, htk⟩
  · omega
  · obtain ⟨rfl, rfl⟩ : q = some ⟨g, 0, none⟩ ∧ kc = cap := by simpa using hv
    refine ⟨g, rfl, hbg, hl, cur, e, hg, by omega, fun j hj => ?_⟩
    have hc := h.cells (g := g) rfl j _ (ptrs_get A hj)
    have hadd : (⟨g, 0, none⟩ : Addr).add j = ⟨g, j, none⟩ := by unfold Addr.add; split <;> simp_all
    rw [hadd] at hc
    simpa [World.cell?, hg] using hc
/-- The kids behind the first i rounds: none made anew yet, or a row of their own. -/
structure WnAt (S3 : Nat → Prop) (s0 : Nat) (w : World) (f : Nat → Tm → Tm) (n l : Nat) (ks : List Tm) (A : Nat → Nat) (i kl : Nat) (q : Option Addr) (m c : Nat) (B : Nat → Nat) : Prop where
  own : (q = none ∧ m = 0 ∧ c = 0 ∧ B = A) ∨ (m = kl ∧ ∃ g, q = some ⟨g, 0, none⟩ ∧ KOwn w s0 g kl c B)
  done : ∀ j k, ks[j]? = some k → (j < i → NIn w (fun x => (S3 x ∨ s0 ≤ x) ∧ q ≠ some ⟨x, 0, none⟩) (Tm.wn f k (n + if j + 1 = kl then l else 0)) (B j)) ∧ (i ≤ j → B j = A j)
theorem WnAt.start (S3 : Nat → Prop) (w : World) (s0 : Nat) (f : Nat → Tm → Tm) (n l : Nat) (ks : List Tm) (A : Nat → Nat) (kl : Nat) : WnAt S3 s0 w f n l ks A 0 kl none 0 0 A :=
  ⟨Or.inl ⟨rfl, rfl, rfl, rfl⟩, fun _ _ _ => ⟨fun h => absurd h (Nat.not_lt_zero _), fun _ => rfl⟩⟩
theorem WnAt.under {S3 : Nat → Prop} {s0 : Nat} {w w' : World} {f : Nat → Tm → Tm} {n l : Nat} {ks : List Tm} {A : Nat → Nat} {i kl : Nat} {q : Option Addr} {m c : Nat} {B : Nat → Nat} (h : WnAt S3 s0 w f n l ks A i kl q m c B) {D : Nat} (hb : Below D w w') (hD : w.heap.size ≤ D) : WnAt S3 s0 w' f n l ks A i kl q m c B := by
  refine ⟨?_, fun j k hk => ⟨fun hj => ((h.done j k hk).1 hj).keep (fun x _ hl => hb.block x (by omega)) (fun _ hx _ => hx), (h.done j k hk).2⟩⟩
  rcases h.own with e | ⟨e, g, hq, hk⟩
  · exact Or.inl e
  · exact Or.inr ⟨e, g, hq, hk.keep (hb.block g (by have := hk.lt; omega))⟩
/-- A kid that is as it was. -/
theorem WnAt.same {S3 : Nat → Prop} {s0 : Nat} {w : World} {f : Nat → Tm → Tm} {n l : Nat} {ks : List Tm} {A : Nat → Nat} {i kl : Nat} {q : Option Addr} {m c : Nat} {B : Nat → Nat} (h : WnAt S3 s0 w f n l ks A i kl q m c B) {k : Tm} (hk : ks[i]? = some k)
    (hn : NIn w (fun x => (S3 x ∨ s0 ≤ x) ∧ q ≠ some ⟨x, 0, none⟩) (Tm.wn f k (n + if i + 1 = kl then l else 0)) (A i)) : WnAt S3 s0 w f n l ks A (i + 1) kl q m c B := by
  refine ⟨h.own, fun j k' hk' => ⟨fun hj => ?_, fun hj => (h.done j k' hk').2 (by omega)⟩⟩
  by_cases e : j = i
  · subst e
    rw [hk] at hk'; obtain rfl := Option.some.inj hk'
    rw [(h.done j k hk).2 (Nat.le_refl _)]; exact hn
  · exact (h.done j k' hk').1 (by omega)
/-- A kid that was made, in a row of the call's own. -/
theorem WnAt.put {S3 : Nat → Prop} {s0 : Nat} {w : World} {f : Nat → Tm → Tm} {n l : Nat} {ks : List Tm} {A : Nat → Nat} {i kl : Nat} {g c : Nat} {B : Nat → Nat} (h : WnAt S3 s0 w f n l ks A i kl (some ⟨g, 0, none⟩) kl c B) {k : Tm} {b : Nat} (hi : i < kl) (hk : ks[i]? = some k)
    (hn : NIn w (fun x => (S3 x ∨ s0 ≤ x) ∧ some (⟨g, 0, none⟩ : Addr) ≠ some ⟨x, 0, none⟩) (Tm.wn f k (n + if i + 1 = kl then l else 0)) b) :
    WnAt S3 s0 (w.setCell ⟨g, i, none⟩ (.pointer (some ⟨b, 0, none⟩))) f n l ks A (i + 1) kl (some ⟨g, 0, none⟩) kl c (fun x => if x = i then b else B x) := by
  have hset : ∀ x, x ≠ g → (w.setCell ⟨g, i, none⟩ (.pointer (some ⟨b, 0, none⟩))).heap[x]? = w.heap[x]? := fun x hx => Below.heap_setCell _ _ _ _ hx
  have hkeep : ∀ {t : Tm} {x : Nat}, NIn w (fun x => (S3 x ∨ s0 ≤ x) ∧ some (⟨g, 0, none⟩ : Addr) ≠ some ⟨x, 0, none⟩) t x → NIn (w.setCell ⟨g, i, none⟩ (.pointer (some ⟨b, 0, none⟩))) (fun x => (S3 x ∨ s0 ≤ x) ∧ some (⟨g, 0, none⟩ : Addr) ≠ some ⟨x, 0, none⟩) t x := fun hx => hx.keep (fun y hy _ => hset y (fun e => hy.2 (by rw [e]))) (fun _ hy _ => hy)
  refine ⟨Or.inr ⟨rfl, g, rfl, ?_⟩, fun j k' hk' => ⟨fun hj => ?_, fun hj => ?_⟩⟩
  · rcases h.own with ⟨e, _⟩ | ⟨_, g2, e, hko⟩
    · cases e
    · obtain rfl : g = g2 := by simpa using e
      exact hko.set hi
  · by_cases e : j = i
    · subst e
      rw [hk] at hk'; obtain rfl := Option.some.inj hk'
      simp only [if_true]; exact hkeep hn
    · simp only [if_neg e]; exact hkeep ((h.done j k' hk').1 (by omega))
  · have e : ¬ j = i := by omega
    simp only [if_neg e]; exact (h.done j k' hk').2 (by omega)
/-- The first kid that was made: the row that is copied holds the kids as they were. -/
theorem WnAt.clone {S3 : Nat → Prop} {s0 : Nat} {w w' : World} {f : Nat → Tm → Tm} {n l : Nat} {ks : List Tm} {A : Nat → Nat} {i kl : Nat} {m c : Nat} {B : Nat → Nat} (h : WnAt S3 s0 w f n l ks A i kl none m c B) {g kc : Nat} (hb : Below w.heap.size w w') (hg : KOwn w' w.heap.size g kl kc A) (hs : s0 ≤ w.heap.size) : WnAt S3 s0 w' f n l ks A i kl (some ⟨g, 0, none⟩) kl kc A := by
  have hBA : B = A := by
    rcases h.own with ⟨_, _, _, e⟩ | ⟨_, g2, e, _⟩
    · exact e
    · cases e
  subst hBA
  refine ⟨Or.inr ⟨rfl, g, rfl, Nat.le_trans hs hg.hg, hg.cap, hg.cells⟩, fun j k hk => ⟨fun hj => ?_, fun _ => rfl⟩⟩
  refine ((h.done j k hk).1 hj).keep (fun x _ hl => hb.block x hl) (fun x hx hl => ⟨hx.1, fun e => ?_⟩)
  have : g = x := by simpa using e
  have := hg.hg
  omega
end Go.Proofs.YthpcmglnooemaaaGreatDoor

namespace Go.Proofs.YthpcmglnooemaaaGreatDoor
open Go.RowKit

theorem infoNode_size : (Tryz.prog.info? 57).map (fun i => i.size) = some 6 := by kernel_rfl
/-- Two pointers to nodes, compared. -/
theorem neqK_same (w : World) (a : Nat) : (binOp .neq 43 (.pointer (some ⟨a, 0, none⟩)) (.pointer (some ⟨a, 0, none⟩))).run Tryz.prog w = .ok (.bool false) w := by
  cases h : Tryz.prog.info? 57 with
  | none => have := infoNode_size; rw [h] at this; cases this
  | some j => exact Lib.run_neq_ptr_same w _ Tryz.underlying43 h
theorem neqK_other (w : World) (a c : Nat) (hne : a ≠ c) {ca cb : Array Value} {ta tb : TypeId} (ha : w.heap[a]? = some (.cells ca ta (0, 0))) (hb : w.heap[c]? = some (.cells cb tb (0, 0))) : (binOp .neq 43 (.pointer (some ⟨a, 0, none⟩)) (.pointer (some ⟨c, 0, none⟩))).run Tryz.prog w = .ok (.bool true) w := by
  have hz := infoNode_size
  cases hte : Tryz.prog.info? 57 with
  | none => rw [hte] at hz; cases hz
  | some j =>
    rw [hte] at hz
    have hsz : j.size ≠ 0 := by
      have : j.size = 6 := by simpa using hz
      omega
    have hp := Tryz.underlying43
    have hn2 : (⟨a, 0, none⟩ : Addr) ≠ ⟨c, 0, none⟩ := fun e => hne (by injection e)
    have h : ∀ d : Nat, (Op.equalIn (d + 1) 43 (.pointer (some ⟨a, 0, none⟩)) (.pointer (some ⟨c, 0, none⟩))).run Tryz.prog w = .ok false w := fun d => by
      simp [Op.equalIn, run_underlying hp, sizeOf, typeInfo, hte, hsz, run_sameAddr_other w hn2 ha hb]
    simp only [binOp]
    simp [Op.equal, Op.maxDepth, h 9999]
theorem NIn.heap {w : World} {S : Nat → Prop} {m : Tm} {b : Nat} (h : NIn w S m b) : ∃ C t, w.heap[b]? = some (.cells C t (0, 0)) := by
  cases h with
  | mk hd a d bs ty ks b bp bl bc kp kl kc A hS0 hb0 _ _ _ _ _ _ => exact ⟨_, _, hb0⟩

theorem eqNil_any (w : World) (a : Option Addr) (n c n' c' : Nat) : (binOp .eql 55 (.slice a n c) (.slice none n' c')).run Tryz.prog w = .ok (.bool a.isNone) w := Lib.run_eql_slice_nil w _ _ a n c n' c' Tryz.underlying55

set_option maxRecDepth 100000 in
set_option maxHeartbeats 1000000 in
/-- slices.Clone at a row of pointers to nodes. -/
theorem cloneK_any (g n c : Nat) (A : Nat → Nat) (w : World) (hn : 0 < n) (hm : n ≤ 400000000) (hc : ∀ j u, (ptrs A n)[j]? = some u → w.cell? ⟨g, j, none⟩ = some u) :
    Calls Tryz.prog 116 #[.slice (some ⟨g, 0, none⟩) n c] w fun e w' => ∃ g2 kc, e = .returned (.slice (some ⟨g2, 0, none⟩) n kc) ∧ KOwn w' w.heap.size g2 n kc A ∧ Below w.heap.size w w' := by
  obtain ⟨i0, hi0, hz0, hz1, hz2⟩ := info_parts Tryz.infoPtr
  have HC := hid hc
  have hq := eqNil_any
  clear hc
  go_enter Tryz.func116, Tryz.ntmps116
  go_wp2_with (at_builtin; refine wpList_append_own _ rfl _ _ 55 rfl w.heap.size 43 i0 (.pointer none) 1 8 Tryz.underlying55 hi0 hz0 hz1 hz2 rfl (by decide) _ _ _ rfl (World.ownsRow_made w #[] 0 (Nat.le_refl _) (Nat.zero_le _) (by simp)) ⟨g, 0, none⟩ n c (ptrs A n) rfl (by simp [ptrs]) (fun j u hj => by rw [Addr.add_lit, Nat.zero_add]; exact Lib.cell?_alloc_some _ (HC.out j u hj)) (fun u hu => by unfold ptrs at hu; obtain ⟨y, _, rfl⟩ := List.mem_map.1 hu; rfl) (by unfold maxLen; omega) (by omega) (by simp) ?_; intro v2 w2 hown2 hg2 hnil2; have HO2 := hid hown2; have HG2 := hid hg2; clear hown2 hg2 hnil2)
  go_ret
  have hown := HO2.out
  rw [Nat.zero_add, List.nil_append] at hown
  have hv : ∃ q kc, v2 = .slice q n kc := by
    rcases hown.2 with ⟨hv, hn0⟩ | ⟨g3, cap, cur, hv, _⟩
    · omega
    · exact ⟨_, _, hv⟩
  obtain ⟨q, kc, rfl⟩ := hv
  obtain ⟨g2, rfl, hk⟩ := KOwn.ofRow hown hn
  exact ⟨g2, kc, rfl, hk, ((Below.refl _ w).alloc (Nat.le_refl _) _).grown HG2.out (by simp) (fun k hk => by have h2 : some w.heap.size = some k := hk; have h3 := Option.some.inj h2; omega)⟩

set_option maxRecDepth 100000 in
set_option maxHeartbeats 1000000 in
theorem bindsIn_any (b : Nat) (bp kp : Option Addr) (bl bc kl kc i : Nat) (w : World) (hi : i < kl) (hk : kl ≤ 400000000) (c3 : w.cell? ⟨b, 3, none⟩ = some (.slice bp bl bc)) (c5 : w.cell? ⟨b, 5, none⟩ = some (.slice kp kl kc)) :
    Calls Tryz.prog 115 #[.pointer (some ⟨b, 0, none⟩), .int .i64 (i : Int)] w fun e w' => e = .returned (.int .i64 ((if i + 1 = kl then bl else 0 : Nat) : Int)) ∧ w = w' := by
  by_cases e : i + 1 = kl
  · subst e
    rw [if_pos rfl]
    have h1 : ((i : Int) == ((i + 1 : Nat) : Int) - 1) = true := by simp
    have h2 : ((i : Int) == (i : Int) + 1 - 1) = true := by simp
    go_enter Tryz.func115, Tryz.ntmps115
    go_wp2_with fail
    go_ret
    exact ⟨rfl, rfl⟩
  · rw [if_neg e]
    have h1 : ((i : Int) == (kl : Int) - 1) = false := by simp; omega
    have h2 : ¬ (i : Int) = (kl : Int) - 1 := by omega
    go_enter Tryz.func115, Tryz.ntmps115
    go_wp2_with fail
    go_ret
    exact ⟨rfl, rfl⟩
end Go.Proofs.YthpcmglnooemaaaGreatDoor

namespace Go.Proofs.YthpcmglnooemaaaGreatDoor
open Go.RowKit

/-- What a term that was made leaves: the blocks it lies in are such that were there, or new. -/
def WnPost (S3 : Nat → Prop) (m : Tm) (w : World) (e : Ending) (w' : World) : Prop := ∃ b : Nat, e = .returned (.pointer (some ⟨b, 0, none⟩)) ∧ NIn w' (fun k => S3 k ∨ w.heap.size ≤ k) m b ∧ Below w.heap.size w w'
/-- What is asked of a function value that is called at a name. -/
def ChOk (w0 : World) (S3 : Nat → Prop) (fid : Nat) (caps : Array Value) (f : Nat → Tm → Tm) : Prop :=
  ∀ (hd a : ByteArray) (d : Int) (bs : List ByteArray) (ty : Option Ty) (ks : List Tm) (b n : Nat) (W : World), hd.toList = [110, 97, 109, 101] → NIn w0 S3 (.mk hd a d bs ty ks) b → Kept w0 W → w0.heap.size ≤ W.heap.size → n ≤ 800000000 →
    Calls Tryz.prog fid (#[.pointer (some ⟨b, 0, none⟩), .int .i64 (n : Int)] ++ caps) W (WnPost S3 (f n (.mk hd a d bs ty ks)) W)

set_option maxRecDepth 100000 in
set_option maxHeartbeats 4000000 in
theorem withNames_any {w0 : World} {S3 : Nat → Prop} {m : Tm} {b : Nat} (hn : NIn w0 S3 m b) {fid : Nat} {caps : Array Value} {f : Nat → Tm → Tm} (eg : ∀ args w, (callFunc fid args).run Tryz.prog w = .ok (.enter fid args) w) (hch : ChOk w0 S3 fid caps f) (hS3 : ∀ k, S3 k → k < w0.heap.size) :
    ∀ n, n + m.size ≤ 800000000 → m.size ≤ 400000000 → ∀ w, Kept w0 w → w0.heap.size ≤ w.heap.size →
    Calls Tryz.prog 88 #[.pointer (some ⟨b, 0, none⟩), .int .i64 (n : Int), .func (.func fid) #[] caps] w (WnPost S3 (Tm.wn f m n) w) := by
  induction hn with
  | mk hd a d bs ty ks b bp bl bc kp kl kc A hS hb hbl hkl hbn hbv hkv hks ih =>
    intro n hnm hms w hk hw
    have hlt0 := lt_of_block hb
    have c := cells_of_six ((hk b hlt0).trans hb)
    have c0 := c.1
    have c1 := c.2.1
    have c2 := c.2.2.1
    have c3 := c.2.2.2.1
    have c4 := c.2.2.2.2.1
    have c5 := c.2.2.2.2.2.1
    by_cases hf : hd.toList = [110, 97, 109, 101]
    · have HC := hid (hch hd a d bs ty ks b n w hf (.mk hd a d bs ty ks b bp bl bc kp kl kc A hS hb hbl hkl hbn hbv hkv hks) hk hw (by omega))
      have e1 : (hd.toList == [110, 97, 109, 101]) = true := by simpa using hf
      rw [Tm.wn, if_pos hf]
      clear hch ih hk hbv hkv hks hb hS c hf
      go_enter Tryz.func88, Tryz.ntmps88
      go_wp2_with fail
      go_at_fn fid
      refine HC.out.mono ?_
      rintro e w1 ⟨b1, rfl, hn1, hb1⟩
      have HN1 := hid hn1
      clear hn1
      go_wp2_with fail
      go_ret
      exact ⟨b1, rfl, HN1.out, hb1⟩
    · have e1 : (hd.toList == [110, 97, 109, 101]) = false := by simpa using hf
      have HWE := hid (show Tm.wn f (Tm.mk hd a d bs ty ks) n = Tm.mk hd a d bs ty (Tm.wns f ks n bl) by rw [Tm.wn, if_neg hf, hbl])
      rw [HWE.out]
      rw [Tm.size] at hnm hms
      have hsk : Tm.sizes ks ≤ 400000000 := by omega
      have hkl3 : kl ≤ 400000000 := by have := tmsizes_length ks; omega
      have hbl3 : n + bl + Tm.sizes ks ≤ 800000000 := by omega
      have HKL := hid hkl
      have HKV := hid hkv
      have HIH := hid ih
      have HK := hid hk
      have HBV := hid hbv
      have HBL := hid hbl
      have HBN := hid hbn
      have HSB := hid hS
      have HB := hid hb
      have HNA := hid hks
      have HS3 := hid hS3
      have HKC := hid (show ∀ W, Kept w0 W → W.cell? ⟨b, 3, none⟩ = some (.slice bp bl bc) ∧ W.cell? ⟨b, 4, none⟩ = some (tyV ty) ∧ W.cell? ⟨b, 5, none⟩ = some (.slice kp kl kc) from fun W hW => by
        have c := cells_of_six ((hW b hlt0).trans hb)
        exact ⟨c.2.2.2.1, c.2.2.2.2.1, c.2.2.2.2.2.1⟩)
      clear ih hk hb hbv hS c hkl hkv hks hbl hbn hch hf c1 c2 c3 c4
      go_enter Tryz.func88, Tryz.ntmps88
      go_wp2_with fail
      go_loopw [7, 26] (fun v u wr => ∃ (i m c : Nat) (q : Option Addr) (B : Nat → Nat), i ≤ kl ∧ u = .int .i64 (i : Int) ∧ v = .slice q m c ∧ Hid (WnAt S3 w.heap.size wr f n bl ks A i kl q m c B) ∧ Hid (Below w.heap.size w wr)) (fun _ u _ => kl - (intOf u).toNat)
      case atStart => exact ⟨0, 0, 0, none, A, Nat.zero_le _, rfl, rfl, hid (WnAt.start _ _ _ _ _ _ _ _ _), hid (Below.refl _ _)⟩
      case round =>
        obtain ⟨i, m, c, q, B, hi, rfl, rfl, hwn, hbel⟩ := hrel
        have hz := hbel.out.size
        have hkw : Kept w0 wr := HK.out.below hbel.out hw
        by_cases hlt : i < kl
        · obtain ⟨t, hti⟩ : ∃ t, ks[i]? = some t := ⟨_, List.getElem?_eq_getElem (by rw [HKL.out]; exact hlt)⟩
          obtain ⟨g, rfl, hSg, hcg⟩ := HKV.out i _ (ptrs_get A hlt)
          have hcg' := hkw.cell hcg
          obtain ⟨x, hx⟩ : ∃ x, (if i + 1 = kl then bl else 0) = x := ⟨_, rfl⟩
          have hxb : x ≤ bl := by rw [← hx]; split <;> omega
          have htk := tmsizes_take ks (i + 1)
          have hsn := tmsizes_snoc ks i t hti
          have hts : t.size ≤ Tm.sizes ks := by omega
          have HBI := hid (show Calls Tryz.prog 115 #[.pointer (some ⟨b, 0, none⟩), .int .i64 (i : Int)] wr fun e w' => e = .returned (.int .i64 (x : Int)) ∧ wr = w' from by
            have h := bindsIn_any b bp (some ⟨g, 0, none⟩) bl bc kl kc i wr hlt hkl3 (HKC.out wr hkw).1 (HKC.out wr hkw).2.2
            rw [hx] at h; exact h)
          have HRC := hid (show Calls Tryz.prog 88 #[.pointer (some ⟨A i, 0, none⟩), .int .i64 ((n : Int) + (x : Int)), .func (.func fid) #[] caps] wr (WnPost S3 (Tm.wn f t (n + x)) wr) from by
            have h := HIH.out i t hti (n + x) (by omega) (by omega) wr hkw (by omega)
            rw [Int.natCast_add] at h; exact h)
          have hnx : (n : Int) + (x : Int) ≤ 800000000 := by omega
          have HTI := hid hti
          have HX := hid hx
          clear hcg hti htk hsn hts hkw c0 c5 hx
          go_wp2_with fail
          go_at_call 115
          refine HBI.out.mono ?_
          rintro e w1 ⟨rfl, rfl⟩
          go_wp2_with fail
          go_at_call 88
          refine HRC.out.mono ?_
          rintro e w2 ⟨b2, rfl, hn2, hb2⟩
          have HN2 := hid hn2
          have HB2 := hid hb2
          clear hn2 hb2
          have hk2 : Kept w0 w2 := (HK.out.below hbel.out hw).below HB2.out (by omega)
          have c5'' := (HKC.out w2 hk2).2.2
          have HS0 := hid (fun (y : Nat) (hy : S3 y ∨ wr.heap.size ≤ y) => (show (S3 y ∨ w.heap.size ≤ y) ∧ q ≠ some ⟨y, 0, none⟩ from by
            refine ⟨hy.imp id (fun h => by omega), ?_⟩
            rcases hwn.out.own with ⟨h, _⟩ | ⟨_, g4, h, hko⟩
            · rw [h]; exact fun e => by cases e
            · rw [h]
              have h1 := hko.lt
              have h2 := hko.hg
              intro e
              have h3 : g4 = y := by simpa using e
              rcases hy with hy | hy
              · have := HS3.out y hy; omega
              · omega))
          have HNX := hid (show NIn w2 (fun x => (S3 x ∨ w.heap.size ≤ x) ∧ q ≠ some ⟨x, 0, none⟩) (Tm.wn f t (n + if i + 1 = kl then bl else 0)) b2 from by
            rw [HX.out]; exact HN2.out.keep (fun _ _ _ => rfl) (fun y hy _ => HS0.out y hy))
          have HWN2 := hid (hwn.out.under HB2.out (Nat.le_refl _))
          have HBL2 := hid (hbel.out.trans (HB2.out.mono hz))
          obtain ⟨C2, t2, hc2⟩ := HN2.out.heap
          obtain ⟨C1, t1, hc1⟩ := (HNA.out i t HTI.out).heap
          have hc1' := (hk2 (A i) (lt_of_block hc1)).trans hc1
          have hneq := neqK_other w2 b2 (A i)
          have HK2 := hid hk2
          clear hk2
          by_cases hbe : b2 = A i
          · subst hbe
            have hq := neqK_same w2 (A i)
            clear hneq hc2 hc1 hc1' c5''
            go_wp2_with fail
            go_roundw
            case rel => exact ⟨i + 1, m, c, q, B, by omega, by go_num, rfl, hid (HWN2.out.same HTI.out HNX.out), HBL2⟩
            case measure => simp [intOf]; omega
          · have hq := hneq hbe hc2 hc1'
            have hqn := eqNil_any
            clear hneq hc1
            rcases hwn.out.own with ⟨rfl, rfl, rfl, rfl⟩ | ⟨rfl, g4, rfl, hko⟩
            · have HCL := hid (fun j u hj => (show w2.cell? ⟨g, j, none⟩ = some u from by
                obtain ⟨g', he, _, hc⟩ := HKV.out j u hj
                obtain rfl : g = g' := by simpa using he
                exact HK2.out.cell hc))
              have HC2 := hid hc2
              have HC1 := hid hc1'
              clear hc2 hc1'
              go_wp2_with fail
              go_at_call 116
              refine (cloneK_any g kl kc B w2 (by omega) hkl3 HCL.out).mono ?_
              rintro e w3 ⟨g3, c3, rfl, hko3, hb3⟩
              have hq3 := neqK_other w3 b2 (B i) hbe ((hb3.block b2 (lt_of_block HC2.out)).trans HC2.out) ((hb3.block (B i) (lt_of_block HC1.out)).trans HC1.out)
              obtain ⟨cs, cf⟩ := hko3.cell hlt
              have HKO3 := hid hko3
              have HB3 := hid hb3
              clear hko3 hb3 hq c5''
              go_wp2_with fail
              go_roundw
              case rel =>
                have h1 := HWN2.out.clone HB3.out HKO3.out HBL2.out.size
                have h2 := HKO3.out.hg
                refine ⟨i + 1, kl, c3, some ⟨g3, 0, none⟩, _, by omega, by go_num, rfl, hid (h1.put hlt HTI.out ?_), hid (((HBL2.out.trans (HB3.out.mono HBL2.out.size))).setCell (Nat.le_trans HBL2.out.size h2) _)⟩
                exact HNX.out.keep (fun k _ hl => HB3.out.block k hl) (fun y hy hl => ⟨hy.1, fun e => by
                  have : g3 = y := by injection e with e; injection e
                  omega⟩)
              case measure => simp [intOf]; omega
            · have hko2 := hko.keep (w' := w2) (HB2.out.block g4 hko.lt)
              obtain ⟨cs, cf⟩ := hko2.cell hlt
              have HKO2 := hid hko2
              clear hko hko2 c5'' hc2 hc1'
              go_wp2_with fail
              go_roundw
              case rel => exact ⟨i + 1, m, c, some ⟨g4, 0, none⟩, _, by omega, by go_num, rfl, hid (HWN2.out.put hlt HTI.out HNX.out), hid (HBL2.out.setCell HKO2.out.hg _)⟩
              case measure => simp [intOf]; omega
        · have hin : i = kl := by omega
          subst hin
          have hqn := eqNil_any
          have c5' := (HKC.out wr hkw).2.2
          have c3' := (HKC.out wr hkw).1
          have c4' := (HKC.out wr hkw).2.1
          have hcs := cells_of_six ((hkw b hlt0).trans HB.out)
          have c0' := hcs.1
          have c1' := hcs.2.1
          have c2' := hcs.2.2.1
          have HKW := hid hkw
          clear hcs hkw c0 c5
          rcases hwn.out.own with ⟨rfl, rfl, rfl, rfl⟩ | ⟨rfl, g4, rfl, hko⟩
          · go_wp2_with fail
            go_ret
            refine ⟨b, rfl, .mk hd a d bs ty _ b bp bl bc kp i kc B (Or.inl HSB.out) ((HKW.out b hlt0).trans HB.out) HBL.out (by rw [wns_length]; exact HKL.out) HBN.out (HBV.out.keep (fun k _ hl => HKW.out k hl) (fun k hk _ => Or.inl hk)) (HKV.out.keep (fun k _ hl => HKW.out k hl) (fun k hk _ => Or.inl hk)) (fun j k hj => ?_), hbel.out⟩
            obtain ⟨k', hk', rfl⟩ := wns_get f n bl ks j k hj
            have hjl : j < i := by rw [← HKL.out]; exact (List.getElem?_eq_some_iff.1 hk').1
            rw [HKL.out]
            exact ((hwn.out.done j k' hk').1 hjl).keep (fun _ _ _ => rfl) (fun _ hy _ => hy.1)
          · obtain ⟨TV, hTV⟩ : ∃ TV, tyV ty = TV := ⟨_, rfl⟩
            have HTV := hid hTV
            have hti := tyV_iface ty
            rw [hTV] at c4' hti
            clear hTV
            rcases hti with ⟨u1, v1, rfl⟩ | rfl
            · go_wp2_with fail
              go_ret
              have hka := HKW.out.alloc (o := .cells #[.string hd, .string a, .int .i64 d, .slice bp bl bc, .iface u1 v1, .slice (some ⟨g4, 0, none⟩) m c] 57) (Nat.le_trans hw hz)
              refine ⟨wr.heap.size, rfl, .mk hd a d bs ty _ wr.heap.size bp bl bc (some ⟨g4, 0, none⟩) m c B (Or.inr hz) (by rw [HTV.out]; exact heap_alloc_new wr _) HBL.out (by rw [wns_length]; exact HKL.out) ⟨HBN.out.1, hko.cap⟩ (HBV.out.keep (fun k _ hl => hka k hl) (fun k hk _ => Or.inl hk)) (fun j v hv => ?_) (fun j k hj => ?_), hbel.out.alloc hz _⟩
              · have hjl : j < m := by have := (List.getElem?_eq_some_iff.1 hv).1; rwa [ptrs_length] at this
                rw [ptrs_get B hjl] at hv
                obtain rfl := Option.some.inj hv
                exact ⟨g4, rfl, Or.inr hko.hg, Lib.cell?_alloc_some _ (hko.cell hjl).1⟩
              · obtain ⟨k', hk', rfl⟩ := wns_get f n bl ks j k hj
                have hjl : j < m := by rw [← HKL.out]; exact (List.getElem?_eq_some_iff.1 hk').1
                rw [HKL.out]
                exact ((hwn.out.done j k' hk').1 hjl).keep (fun k _ hl => heap_alloc_old wr _ hl) (fun _ hy _ => hy.1)
            · go_wp2_with fail
              go_ret
              have hka := HKW.out.alloc (o := .cells #[.string hd, .string a, .int .i64 d, .slice bp bl bc, .nilIface, .slice (some ⟨g4, 0, none⟩) m c] 57) (Nat.le_trans hw hz)
              refine ⟨wr.heap.size, rfl, .mk hd a d bs ty _ wr.heap.size bp bl bc (some ⟨g4, 0, none⟩) m c B (Or.inr hz) (by rw [HTV.out]; exact heap_alloc_new wr _) HBL.out (by rw [wns_length]; exact HKL.out) ⟨HBN.out.1, hko.cap⟩ (HBV.out.keep (fun k _ hl => hka k hl) (fun k hk _ => Or.inl hk)) (fun j v hv => ?_) (fun j k hj => ?_), hbel.out.alloc hz _⟩
              · have hjl : j < m := by have := (List.getElem?_eq_some_iff.1 hv).1; rwa [ptrs_length] at this
                rw [ptrs_get B hjl] at hv
                obtain rfl := Option.some.inj hv
                exact ⟨g4, rfl, Or.inr hko.hg, Lib.cell?_alloc_some _ (hko.cell hjl).1⟩
              · obtain ⟨k', hk', rfl⟩ := wns_get f n bl ks j k hj
                have hjl : j < m := by rw [← HKL.out]; exact (List.getElem?_eq_some_iff.1 hk').1
                rw [HKL.out]
                exact ((hwn.out.done j k' hk').1 hjl).keep (fun k _ hl => heap_alloc_old wr _ hl) (fun _ hy _ => hy.1)
end Go.Proofs.YthpcmglnooemaaaGreatDoor

namespace Go.Proofs.YthpcmglnooemaaaGreatDoor
open Go.RowKit

set_option maxRecDepth 100000 in
set_option maxHeartbeats 1000000 in
/-- The function value of put. -/
theorem put1_ok {w0 : World} {S3 : Nat → Prop} {b1 b2 vb : Nat} {x : ByteArray} {v : Tm} (hv : NIn w0 S3 v vb) (h1 : w0.cell? ⟨b1, 0, none⟩ = some (.string x)) (h2 : w0.cell? ⟨b2, 0, none⟩ = some (.pointer (some ⟨vb, 0, none⟩))) :
    ChOk w0 S3 89 #[.pointer (some ⟨b1, 0, none⟩), .pointer (some ⟨b2, 0, none⟩)] (putF x.toList v) := by
  intro hd a d bs ty ks b n W hf hn hk hw hnb
  show Calls Tryz.prog 89 #[.pointer (some ⟨b, 0, none⟩), .int .i64 (n : Int), .pointer (some ⟨b1, 0, none⟩), .pointer (some ⟨b2, 0, none⟩)] W _
  have c1 := hk.cell h1
  have c2 := hk.cell h2
  have HN := hid hn
  have HV := hid hv
  have HK := hid hk
  cases hn with
  | mk _ _ _ _ _ _ _ bp bl bc kp kl kc A hS hb hbl hkl hbn hbv hkv hks =>
    have c := cells_of_six ((hk b (lt_of_block hb)).trans hb)
    have ca := c.2.1
    have cd := c.2.2.1
    clear c hS hb hbl hkl hbn hbv hkv hks hk h1 h2 hv hf
    by_cases e1 : d = -1
    · subst e1
      by_cases e2 : a.toList = x.toList
      · rw [putF, if_pos ⟨rfl, e2⟩]
        have e3 : (a.toList == x.toList) = true := by simpa using e2
        clear e2
        go_enter Tryz.func89, Tryz.ntmps89
        go_wp2_with fail
        go_quiet (fail)
        go_wp2_with fail
        go_ret
        exact ⟨vb, rfl, HV.out.keep (fun k _ hl => HK.out k hl) (fun k hk _ => Or.inl hk), below_drewN (Below.refl _ _) _⟩
      · rw [putF, if_neg (fun c => e2 c.2)]
        have e3 : (a.toList == x.toList) = false := by simpa using e2
        clear e2
        go_enter Tryz.func89, Tryz.ntmps89
        go_wp2_with fail
        go_quiet (fail)
        go_wp2_with fail
        go_ret
        exact ⟨b, rfl, HN.out.keep (fun k _ hl => HK.out k hl) (fun k hk _ => Or.inl hk), below_drewN (Below.refl _ _) _⟩
    · rw [putF, if_neg (fun c => e1 c.1)]
      have e3 : (d == -1) = false := by simpa using e1
      clear e1
      go_enter Tryz.func89, Tryz.ntmps89
      go_wp2_with fail
      go_quiet (fail)
      go_wp2_with fail
      go_ret
      exact ⟨b, rfl, HN.out.keep (fun k _ hl => HK.out k hl) (fun k hk _ => Or.inl hk), below_drewN (Below.refl _ _) _⟩
/-- What put leaves. -/
def PutPost (s0 : Nat) (m : Tm) (w : World) (e : Ending) (w' : World) : Prop := ∃ b : Nat, e = .returned (.pointer (some ⟨b, 0, none⟩)) ∧ NIn w' (fun k => k < s0 ∨ w.heap.size ≤ k) m b ∧ Below w.heap.size w w'

set_option maxRecDepth 100000 in
set_option maxHeartbeats 1000000 in
/-- THE PROGRAM's PUT. -/
theorem put_any {w0 : World} {S : Nat → Prop} {m : Tm} {b : Nat} (hn : NIn w0 S m b) (x : ByteArray) {v : Tm} {vb : Nat} {S2 : Nat → Prop} (hv : NIn w0 S2 v vb) (hlf : m.leafy) (hms : m.size ≤ 400000000) (w : World) (hk : Kept w0 w) (hw : w0.heap.size ≤ w.heap.size) :
    Calls Tryz.prog 59 #[.pointer (some ⟨b, 0, none⟩), .string x, .pointer (some ⟨vb, 0, none⟩)] w (PutPost w0.heap.size (Tm.put x.toList v m) w) := by
  obtain ⟨W1, hW1⟩ : ∃ W, (w.alloc (.cells #[.string x] 9)).alloc (.cells #[.pointer (some ⟨vb, 0, none⟩)] 43) = W := ⟨_, rfl⟩
  have hz1 : W1.heap.size = w.heap.size + 2 := by rw [← hW1]; simp
  have hb1 : Below w.heap.size w W1 := by rw [← hW1]; exact ((Below.refl _ _).alloc (Nat.le_refl _) _).alloc (by simp) _
  have hk1 : Kept w0 W1 := hk.below hb1 hw
  have c1 : W1.cell? ⟨w.heap.size, 0, none⟩ = some (.string x) := by
    rw [← hW1]
    refine Lib.cell?_alloc_some _ ?_
    have h := heap_new w (.cells #[.string x] 9) w.heap.size rfl
    simp only [World.cell?, h]; rfl
  have c2 : W1.cell? ⟨w.heap.size + 1, 0, none⟩ = some (.pointer (some ⟨vb, 0, none⟩)) := by
    rw [← hW1]
    have h := heap_new (w.alloc (.cells #[.string x] 9)) (.cells #[.pointer (some ⟨vb, 0, none⟩)] 43) (w.heap.size + 1) (by simp)
    simp only [World.cell?, h]; rfl
  have eg : ∀ args w, (callFunc 89 args).run Tryz.prog w = .ok (.enter 89 args) w := enters_of Tryz.func89 (by kernel_rfl) rfl
  have hn1 : NIn W1 (fun k => k < w0.heap.size) m b := hn.keep (fun k _ hl => hk1 k hl) (fun _ _ hl => hl)
  have hv1 : NIn W1 (fun k => k < w0.heap.size) v vb := hv.keep (fun k _ hl => hk1 k hl) (fun _ _ hl => hl)
  have HC := hid (show Calls Tryz.prog 88 #[.pointer (some ⟨b, 0, none⟩), .int .i64 0, .func (.func 89) #[] #[.pointer (some ⟨w.heap.size, 0, none⟩), .pointer (some ⟨w.heap.size + 1, 0, none⟩)]] W1 (WnPost (fun k => k < w0.heap.size) (Tm.put x.toList v m) W1) from by
    have h := withNames_any hn1 eg (put1_ok hv1 c1 c2) (fun k hk => by omega) 0 (by omega) hms W1 (Kept.refl _) (Nat.le_refl _)
    rw [wn_put x.toList v m 0 hlf] at h
    exact h)
  have HB1 := hid hb1
  have HZ1 := hid hz1
  have HW1 := hid hW1
  clear hn hv hk hk1 hn1 hv1 c1 c2 eg hb1 hz1 hW1
  go_enter Tryz.func59, Tryz.ntmps59
  go_wp2_with fail
  rw [HW1.out]
  go_at_call 88
  refine HC.out.mono ?_
  rintro e w2 ⟨b2, rfl, hn2, hb2⟩
  have HN2 := hid hn2
  have HB2 := hid (HB1.out.trans (hb2.mono HB1.out.size))
  clear hn2 hb2
  go_wp2_with fail
  go_ret
  refine ⟨b2, rfl, HN2.out.keep (fun _ _ _ => rfl) (fun k hk _ => hk.imp id (fun h => ?_)), HB2.out⟩
  have := HZ1.out; omega
end Go.Proofs.YthpcmglnooemaaaGreatDoor
