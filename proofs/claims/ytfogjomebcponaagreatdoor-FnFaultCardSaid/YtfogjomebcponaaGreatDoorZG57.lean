/- Merged: KtsP, TypF. -/
import Derived.Test.YtfogjomebcponaaGreatDoorZGSJoinT
import Derived.Test.YtfogjomebcponaaGreatDoorZG51
namespace Go.Proofs.YtfogjomebcponaaGreatDoor
open Go.RowKit
theorem bndT_cnt {h : List UInt8} {ty first : Option Ty} {ts : List Ty} (hb : bndT h ty first = some ts) : ts.length = (shape h).countP Sg.isX := by
 unfold bndT at hb
 by_cases c : h = [116, 111]
 ·rw [if_pos c] at hb; subst c
  split at hb
  ·simp at hb; subst hb; rfl
  ·simp at hb
 rw [if_neg c] at hb
 by_cases c2 : h = [115, 112, 108, 105, 116]
 ·rw [if_pos c2] at hb; subst c2
  split at hb
  ·simp at hb; subst hb; rfl
  ·simp at hb
 rw [if_neg c2] at hb
 by_cases c3 : h = [108, 97, 109]
 ·rw [if_pos c3] at hb; subst c3
  cases ty with
  | none => simp at hb
  | some u => simp at hb; subst hb; rfl
 rw [if_neg c3] at hb
 by_cases c4 : h = [103, 101, 116]
 ·rw [if_pos c4] at hb; subst c4; simp at hb; subst hb; rfl
 rw [if_neg c4] at hb
 simp at hb; subst hb
 unfold shape
 rw [if_neg c, if_neg c3, if_neg c2, if_neg c4]
 by_cases d1 : h = [112, 97, 105, 114]
 ·rw [if_pos d1]; rfl
 rw [if_neg d1]
 by_cases d2 : h = [116, 104, 117, 110, 107] ∨ h = [102, 115, 116] ∨ h = [115, 110, 100]
 ·rw [if_pos d2]; rfl
 rw [if_neg d2]
 by_cases d3 : h = [114, 101, 116, 117, 114, 110] ∨ h = [102, 111, 114, 99, 101]
 ·rw [if_pos d3]; rfl
 rw [if_neg d3]
 by_cases d4 : h = [97, 112, 112]
 ·rw [if_pos d4]; rfl
 rw [if_neg d4]
 by_cases d5 : h = [105, 102]
 ·rw [if_pos d5]; rfl
 rw [if_neg d5]
 by_cases d6 : h = [98, 111, 116, 104] ∨ h = [116, 114, 121]
 ·rw [if_pos d6]; rfl
 rw [if_neg d6]
 by_cases d7 : h = [112, 117, 116]
 ·rw [if_pos d7]; rfl
 rw [if_neg d7]
 by_cases d8 : h = [102, 97, 105, 108]
 ·rw [if_pos d8]; rfl
 rw [if_neg d8]; rfl
theorem envWith_rev (env : List (ByteArray × Ty)) (bs : List ByteArray) (ts : List Ty) (h : bs.length = ts.length) : (enw env bs ts).reverse.map Prod.fst = env.reverse.map Prod.fst ++ bs ∧
    (enw env bs ts).reverse.map (fun x => x.2.text) = env.reverse.map (fun x => x.2.text) ++ ts.map Ty.text ∧ (enw env bs ts).length = env.length + bs.length := by
 unfold enw
 rw [List.reverse_append, List.reverse_reverse, List.map_append, List.map_append]
 refine ⟨by rw [List.map_fst_zip (by omega)], ?_, by simp; omega⟩
 congr 1
 rw [show (fun x : ByteArray × Ty => x.2.text) = Ty.text ∘ Prod.snd from rfl, ← List.map_map, List.map_snd_zip (by omega)]
theorem xsOf_count : ∀ (cs : List Sg) (ps : List Tree), cs.length = ps.length → (xsOf cs ps).length = cs.countP Sg.isX
 | [], _, _ => by simp [xsOf]
 | c :: cs, [], h => by simp at h
 | c :: cs, p :: ps, h => by
  have := xsOf_count cs ps (by simpa using h)
  cases c <;> simp only [xsOf, List.length_cons, List.countP_cons, this] <;> rfl
def ktO (h : List UInt8) (ty : Option Ty) (xs : List ByteArray) (env : List (ByteArray × Ty)) (last : Bool) (first : Option Ty) (p : Tree) : Option Ty :=
 match (if last = true then bndT h ty first else some []) with
 | none => none
 | some bts => Tree.typ (enw env (if last = true then xs else []) bts) p
theorem kts_step {cs : List Sg} {qs : List Tree} {j n : Nat} {c : Sg} {p : Tree} (hn : cs.length = n) (hc : cs[j]? = some c) (hp : qs[j]? = some p) (h : List UInt8) (ty : Option Ty) (xs : List ByteArray) (env : List (ByteArray × Ty)) (acc : List (Option Ty)) :
    Tree.kts h ty xs env acc (cs.drop j) (qs.drop j) = if c.isK = true then Tree.kts h ty xs env (acc ++ [ktO h ty xs env (decide (j + 1 = n)) acc[0]?.join p]) (cs.drop (j + 1)) (qs.drop (j + 1)) else Tree.kts h ty xs env acc (cs.drop (j + 1)) (qs.drop (j + 1)) := by
 have hj := (List.getElem?_eq_some_iff.1 hc).1
 have e : (cs.drop (j + 1) = []) ↔ j + 1 = n := by
  rw [List.drop_eq_nil_iff]; omega
 rw [dro hc, dro hp, Tree.kts]
 obtain ⟨r, hr⟩ : ∃ r, cs.drop (j + 1) = r := ⟨_, rfl⟩
 rw [hr] at e ⊢
 have e2 : r.isEmpty = decide (j + 1 = n) := by
  cases r with
  | nil => rw [decide_eq_true (e.1 rfl)]; rfl
  | cons x r => rw [decide_eq_false (fun h => by have := e.2 h; cases this)]; rfl
 rw [e2]
 rfl
theorem kts_len (h : List UInt8) (ty : Option Ty) (xs : List ByteArray) (env : List (ByteArray × Ty)) : ∀ (cs : List Sg) (ps : List Tree) (acc : List (Option Ty)), cs.length = ps.length → (Tree.kts h ty xs env acc cs ps).length = acc.length + cs.countP Sg.isK
 | [], _, acc, _ => by rw [Tree.kts]; simp
 | c :: cs, [], _, hl => by simp at hl
 | c :: cs, p :: ps, acc, hl => by
  rw [Tree.kts]
  have hl' : cs.length = ps.length := by simpa using hl
  split
  ·rename_i hk
   rw [kts_len h ty xs env cs ps _ hl', List.countP_cons, if_pos hk]; simp; omega
  ·rename_i hk
   rw [kts_len h ty xs env cs ps _ hl', List.countP_cons, if_neg hk]; rfl
theorem bnd_cases (h : List UInt8) (ty : Option Ty) (qs : List Tree) (hsl : (shape h).length = qs.length) (env : List (ByteArray × Ty)) (last : Bool) (first : Option Ty) (p : Tree) :
    (bnd last (xsOf (shape h) qs) = [] ∧ ktO h ty (xsOf (shape h) qs) env last first p = p.typ env) ∨
    (∃ x xs, bnd last (xsOf (shape h) qs) = x :: xs ∧ bndT h ty first = none ∧ ktO h ty (xsOf (shape h) qs) env last first p = none) ∨
    (∃ x xs bts, bnd last (xsOf (shape h) qs) = x :: xs ∧ bndT h ty first = some bts ∧ bts.length = (x :: xs).length ∧ ktO h ty (xsOf (shape h) qs) env last first p = p.typ (enw env (x :: xs) bts)) := by
 have hx := xsOf_count (shape h) qs hsl
 cases last with
 | false => left; exact ⟨rfl, rfl⟩
 | true =>
  have hb : bnd true (xsOf (shape h) qs) = xsOf (shape h) qs := rfl
  rw [hb]
  cases hq : xsOf (shape h) qs with
  | nil =>
   left
   refine ⟨rfl, ?_⟩
   rw [hq] at hx
   have : bndT h ty first = some [] := by
    cases ht : bndT h ty first with
    | none =>
     exfalso
     unfold bndT at ht
     split at ht
     ·rename_i c; rw [c] at hx; exact absurd (show 0 = 1 from hx) (by decide)
     ·split at ht
      ·rename_i c; rw [c] at hx; exact absurd (show 0 = 2 from hx) (by decide)
      ·split at ht
       ·rename_i c; rw [c] at hx; exact absurd (show 0 = 1 from hx) (by decide)
       ·split at ht <;> simp at ht
    | some ts =>
     have := bndT_cnt ht
     rw [← hx] at this
     rw [List.length_eq_zero_iff.1 this]
   unfold ktO
   rw [if_pos rfl, if_pos rfl, this]
   rfl
  | cons x xs =>
   right
   cases ht : bndT h ty first with
   | none =>
    left
    refine ⟨x, xs, rfl, rfl, ?_⟩
    unfold ktO; rw [if_pos rfl, if_pos rfl, ht]
   | some bts =>
    right
    refine ⟨x, xs, bts, rfl, rfl, ?_, ?_⟩
    ·rw [bndT_cnt ht, ← hx, hq]
    ·unfold ktO; rw [if_pos rfl, if_pos rfl, ht]
theorem l3_look (s : List UInt8) : ∀ (l : List (ByteArray × Ty)), l3 s (l.map Prod.fst) (l.map fun x => x.2.text) l.length = txtO (lookR s l.reverse) := by
 intro l
 have key : ∀ i, i ≤ l.length → l3 s (l.map Prod.fst) (l.map fun x => x.2.text) i = txtO (lookR s (l.take i).reverse) := by
  intro i
  induction i with
  | zero => intro _; simp [l3, lookR, txtO]
  | succ i ih =>
   intro hi
   obtain ⟨x, hx⟩ : ∃ x, l[i]? = some x := ⟨_, List.getElem?_eq_getElem (by omega)⟩
   rw [l3_step (n := x.1) (t := x.2.text) (by simp [hx]) (by simp [hx]), List.take_add_one, hx, Option.toList_some, List.reverse_append, List.reverse_singleton, List.singleton_append]
   obtain ⟨n, t⟩ := x
   rw [lookR]
   split
   ·rfl
   ·exact ih (by omega)
 have := key l.length (Nat.le_refl _)
 rwa [List.take_length] at this
theorem lam_part {w0 : World} {S : Nat → Prop} {q : Tree} {qs : List Tree} {b n N : Nat} {A : Nat → Hd} (hn : qs.length = n) (hN : N = n + 1) (hwt : Tree.wts qs ≤ 12000)
    (hA : ∀ i, i < n + 1 → w0.cell? ⟨b, i * 2, none⟩ = some (.string (A i).a)) (hB : ∀ i, i < n + 1 → w0.cell? ⟨b, i * 2 + 1, none⟩ = some (.slice (A i).p (A i).l (A i).c))
    (hps : ∀ i p, (q :: qs)[i]? = some p → TIn w0 S p (A i)) (hsl : (shape q.text.toList).length = qs.length) (hft : Tree.fits (shape q.text.toList) qs = true) (w : World) (hk : Kept w0 w) (hw : w0.heap.size ≤ w.heap.size) :
    (q.text.toList = [108, 97, 109] → ∃ x, tyIn (shape q.text.toList) qs = some x ∧ 2 < N ∧ ∃ v1 v2, w.cell? ⟨b, 4, none⟩ = some v1 ∧ w.cell? ⟨b, 5, none⟩ = some v2 ∧ ∀ W, Kept w W → w.heap.size ≤ W.heap.size → Calls Tryz.prog 71 #[.agg #[v1, v2]] W fun e w' => e = .returned (.string x.text) ∧ Below W.heap.size W w') ∧
    (q.text.toList = [102, 97, 105, 108] → ∃ x, tyIn (shape q.text.toList) qs = some x ∧ 1 < N ∧ ∃ v1 v2, w.cell? ⟨b, 2, none⟩ = some v1 ∧ w.cell? ⟨b, 3, none⟩ = some v2 ∧ ∀ W, Kept w W → w.heap.size ≤ W.heap.size → Calls Tryz.prog 71 #[.agg #[v1, v2]] W fun e w' => e = .returned (.string x.text) ∧ Below W.heap.size W w') := by
 have key : ∀ (i : Nat) (p : Tree) (x : Ty), qs[i]? = some p → tyLim p = some x → ∀ W, Kept w W → w.heap.size ≤ W.heap.size → Calls Tryz.prog 71 #[.agg #[.string (A (i + 1)).a, .slice (A (i + 1)).p (A (i + 1)).l (A (i + 1)).c]] W fun e w' => e = .returned (.string x.text) ∧ Below W.heap.size W w' := by
  intro i p x hp hx W hkW hs
  have h1 := (tyl hx).1
  have h2 := (tyLim_good hx).2
  have h3 : p.write.length ≤ 12000 := by rw [ty_write p x h1]; have := tyw x; omega
  have := l1Text_any (hps (i + 1) p (by simpa using hp)) h3 (by have := wtp qs i p hp; omega) W (hk.trans hkW hw) (by omega)
  rw [txt_ty h1] at this
  exact this
 refine ⟨fun h => ?_, fun h => ?_⟩
 ·rw [h] at hsl hft ⊢
  match qs, hn, hsl, hft, key with
  | [p0, p1, p2], hn, _, hft, key =>
   simp [shape, Tree.fits] at hft
   cases hx : tyLim p1 with
   | none => rw [hx] at hft; simp at hft
   | some x =>
    simp at hn
    refine ⟨x, hx, by omega, _, _, hk.cell (hA 2 (by omega)), hk.cell (hB 2 (by omega)), key 1 p1 x rfl hx⟩
 ·rw [h] at hsl hft ⊢
  match qs, hn, hsl, hft, key with
  | [p0], hn, _, hft, key =>
   simp [shape, Tree.fits] at hft
   cases hx : tyLim p0 with
   | none => rw [hx] at hft; simp at hft
   | some x =>
    simp at hn
    refine ⟨x, hx, by omega, _, _, hk.cell (hA 1 (by omega)), hk.cell (hB 1 (by omega)), key 0 p0 x rfl hx⟩
end Go.Proofs.YtfogjomebcponaaGreatDoor
