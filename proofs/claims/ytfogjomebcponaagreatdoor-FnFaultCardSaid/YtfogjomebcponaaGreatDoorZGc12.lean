/- Merged: ZGSSwpS, ZGSSwpT. -/
import Derived.Deep.RegionLaw
import Derived.Deep.AppendLies
import Derived.Test.YtfogjomebcponaaGreatDoorZG11
namespace Go.Proofs.YtfogjomebcponaaGreatDoor
open Go.RowKit
set_option maxRecDepth 100000
set_option maxHeartbeats 8000000
mutual
def Tree.swap (f : List UInt8) (to : Tree) : Tree → Tree
 | .atom s => if s.toList = f then to else .atom s
 | .node ps => .node (Tree.swaps f to ps)
def Tree.swaps (f : List UInt8) (to : Tree) : List Tree → List Tree
 | [] => []
 | p :: ps => Tree.swap f to p :: Tree.swaps f to ps
end
theorem swaps_map (f : List UInt8) (to : Tree) (ps : List Tree) : Tree.swaps f to ps = ps.map (Tree.swap f to) := by
 induction ps with
 | nil => rfl
 | cons p ps ih => rw [Tree.swaps, ih]; rfl
def AccJ (s0 : Nat) (w : World) (base : Nat) (e : TypeId) (v : Value) (acc : List Tree) : Prop :=
 ∃ ab : List Hd, ab.length = acc.length ∧ w.ownsRow base e 2 v acc.length (two ab) ∧
  ∀ (i : Nat) (p : Tree) (x : Hd), acc[i]? = some p → ab[i]? = some x → TIn w (fun b => (b < s0 ∨ base ≤ b) ∧ v.ownBlock ≠ some b) p x
theorem AccJ.nil (s0 : Nat) (w : World) (base : Nat) (e : TypeId) : AccJ s0 w base e (.slice none 0 0) [] :=
 ⟨[], rfl, World.ownsRow_nil _ _ _ _, fun i p x h => by simp at h⟩
theorem AccJ.setCell {s0 : Nat} {w : World} {base : Nat} {e : TypeId} {v : Value} {acc : List Tree} (h : AccJ s0 w base e v acc) {a : Addr} (ha : a.block < base) (ha2 : s0 ≤ a.block) (u : Value) : AccJ s0 (w.setCell a u) base e v acc := by
 obtain ⟨ab, hl, hown, ht⟩ := h
 refine ⟨ab, hl, ownsRow_setCell_below hown ha u, fun i p x hp hx => (ht i p x hp hx).keep (fun k hk _ => Below.heap_setCell _ _ _ _ (by have := hk.1; omega)) fun _ hk _ => hk⟩
theorem AccJ.more {s0 : Nat} {w1 wa w' : World} {base : Nat} {e : TypeId} {v v' : Value} {acc : List Tree} {p : Tree} {a : Hd} {wr : World} {ab : List Hd} (hs0 : s0 ≤ base) (hl : ab.length = acc.length) (howns : wr.ownsRow base e 2 v acc.length (two ab))
    (ht : ∀ (i : Nat) (p : Tree) (x : Hd), acc[i]? = some p → ab[i]? = some x → TIn wr (fun b => (b < s0 ∨ base ≤ b) ∧ v.ownBlock ≠ some b) p x) (hbase : base ≤ wr.heap.size)
    (hb1 : Below wr.heap.size wr w1) (hn : TIn w1 (fun b => b < s0 ∨ wr.heap.size ≤ b) p a) (hba : Below w1.heap.size w1 wa)
    (hown : w'.ownsRow base e 2 v' (acc.length + 1) (two ab ++ [.string a.a, .slice a.p a.l a.c])) (hg : wa.grownBy w' v.ownBlock) (hw : v'.ownBlock = v.ownBlock ∨ v'.ownBlock = some wa.heap.size) : AccJ s0 w' base e v' (acc ++ [p]) := by
 have hlt := howns.lt
 have h1 := hb1.size
 have h2 := hba.size
 have hk : ∀ {q : Tree} {x : Hd}, TIn wa (fun b => (b < s0 ∨ base ≤ b) ∧ v.ownBlock ≠ some b) q x → TIn w' (fun b => (b < s0 ∨ base ≤ b) ∧ v'.ownBlock ≠ some b) q x := by
  intro q x h
  refine h.keep (fun k hk hlt => hg.block k hlt fun e => hk.2 e.symm) fun k hk hlt => ⟨hk.1, ?_⟩
  rcases hw with hw | hw
  ·rw [hw]; exact hk.2
  ·rw [hw]; intro e; have := Option.some.inj e; omega
 refine ⟨ab ++ [a], by simp [hl], ?_, fun i q x hq hx => ?_⟩
 ·rw [← two_snoc]; simpa using hown
 ·by_cases hi : i < acc.length
  ·rw [List.getElem?_append_left hi] at hq
   rw [List.getElem?_append_left (by omega)] at hx
   exact hk (((ht i q x hq hx).under hb1 fun _ _ hk => hk).under hba fun _ _ hk => hk)
  ·have hi2 : i = acc.length := by
     have := (List.getElem?_eq_some_iff.1 hq).1
     simp at this; omega
   subst hi2
   simp at hq
   rw [← hl] at hx; simp at hx
   subst hq; subst hx
   refine hk ((hn.under hba fun _ _ hk => hk).keep (fun _ _ _ => rfl) fun k hk _ => ⟨by omega, fun e => ?_⟩)
   have := hlt k e; omega
theorem AccJ.node {s0 : Nat} {w : World} {base : Nat} {e : TypeId} {p : Option Addr} {l c : Nat} {acc : List Tree} (h : AccJ s0 w base e (.slice p l c) acc) (h0 : 0 < acc.length) : TIn w (fun b => b < s0 ∨ base ≤ b) (.node acc) ⟨ByteArray.empty, p, l, c⟩ := by
 obtain ⟨ab, hl, hown, ht⟩ := h
 rcases hown.2 with ⟨_, hn⟩ | ⟨g, cap, cur, hv, hbg, hg, hnc, hcm, hcs, htake⟩
 ·omega
 obtain ⟨rfl, rfl, rfl⟩ : p = some ⟨g, 0, none⟩ ∧ l = acc.length ∧ c = cap := by simpa using hv
 have hc : ∀ j u, (two ab)[j]? = some u → w.cell? ((⟨g, 0, none⟩ : Addr).add j) = some u := hown.cells (g := g) rfl
 have hadd : ∀ j, (⟨g, 0, none⟩ : Addr).add j = ⟨g, j, none⟩ := by intro j; unfold Addr.add; split <;> simp_all
 have hx : ∀ i, i < acc.length → ∃ x, ab[i]? = some x := fun i hi => ⟨ab[i]'(by omega), List.getElem?_eq_getElem (by omega)⟩
 refine .node acc g c (fun i => (ab[i]?).getD default) h0 hnc hcm (Or.inr hbg) (fun i hi => ?_) (fun i hi => ?_) (fun i p hp => ?_)
 ·obtain ⟨x, hx⟩ := hx i hi
  have := hc (i * 2) _ (two_get ab i x hx).1
  rw [hadd] at this; rw [hx]; exact this
 ·obtain ⟨x, hx⟩ := hx i hi
  have := hc (i * 2 + 1) _ (two_get ab i x hx).2
  rw [hadd] at this; rw [hx]; exact this
 ·obtain ⟨x, hx⟩ := hx i (List.getElem?_eq_some_iff.1 hp).1
  have := ht i p x hp hx
  rw [hx]; exact this.keep (fun _ _ _ => rfl) fun k hk _ => hk.1
theorem AccJ.len {s0 : Nat} {w : World} {base : Nat} {e : TypeId} {p : Option Addr} {l c : Nat} {acc : List Tree} (h : AccJ s0 w base e (.slice p l c) acc) : l = acc.length := by
 obtain ⟨ab, hl, hown, ht⟩ := h
 rcases hown.2 with ⟨hv, hn⟩ | ⟨g, cap, cur, hv, _⟩
 ·simp at hv; omega
 ·simp at hv; exact hv.2.1
def SwpPost (s0 : Nat) (T : Tree) (w : World) (e : Ending) (w' : World) : Prop := ∃ h : Hd, e = .returned (.agg #[.string h.a, .slice h.p h.l h.c]) ∧ TIn w' (fun k => k < s0 ∨ w.heap.size ≤ k) T h ∧ Below w.heap.size w w'
def SwpAsk (f : ByteArray) (w0 : World) (vt : Tree) (vh : Hd) (t : Tree) (h : Hd) : Prop := ∀ w, Kept w0 w → w0.heap.size ≤ w.heap.size →
 Calls Tryz.prog 77 #[.agg #[.string h.a, .slice h.p h.l h.c], .string f, .agg #[.string vh.a, .slice vh.p vh.l vh.c]] w (SwpPost w0.heap.size (Tree.swap f.toList vt t) w)
theorem swp_true (f a : ByteArray) {w0 : World} {S2 : Nat → Prop} {vt : Tree} {vh : Hd} (hv : TIn w0 S2 vt vh) (hq : (a.toList == f.toList) = true) (pp : Option Addr) (n cap : Nat) (w : World) (hk : Kept w0 w) (hw : w0.heap.size ≤ w.heap.size) :
    Calls Tryz.prog 77 #[.agg #[.string a, .slice pp n cap], .string f, .agg #[.string vh.a, .slice vh.p vh.l vh.c]] w (SwpPost w0.heap.size vt w) := by
 have HK := hid hk
 have HV := hid hv
 obtain ⟨va, vp, vl, vc⟩ := vh
 clear hk hv
 go_enter Tryz.func77, Tryz.ntmps77
 go_wp2_with fail
 refine bodyPost_ret (v := .agg #[.string va, .slice vp vl vc]) (by simp [results, Tryz.results77, go_sem]) rfl ?_
 exact ⟨⟨va, vp, vl, vc⟩, rfl, HV.out.keep (fun k _ hl => (((HK.out.alloc hw _).alloc (by simp; omega) _).alloc (by simp; omega) _) k hl) (fun k _ hl => Or.inl hl), (((Below.refl w.heap.size w).alloc (Nat.le_refl _) _).alloc (by simp) _).alloc (by simp; omega) _⟩
theorem box2g {w : World} {b : Nat} {x y : Value} {t : TypeId} (h : w.heap[b]? = some (.cells #[x, y] t (0, 0))) :
    (w.cell? ⟨b, 0, none⟩ = some x ∧ w.cell? ⟨b, 1, none⟩ = some y) ∧ (w.frozen? ⟨b, 0, none⟩ = false ∧ w.frozen? ⟨b, 1, none⟩ = false) ∧ b < w.heap.size :=
 ⟨⟨(cel h).1, (cel h).2.1⟩, (cel h).2.2, lt_of_block h⟩
theorem swp_go (f a : ByteArray) {w0 : World} {vt : Tree} {vh : Hd} (hq : (a.toList == f.toList) = false) {ps : List Tree} {pp : Option Addr} {n cap : Nat} {A : Nat → Hd} (hn : ps.length = n) (hn5 : n ≤ 50000)
    (hpp : 0 < n → ∃ b, pp = some ⟨b, 0, none⟩ ∧ (∀ i, i < n → w0.cell? ⟨b, i * 2, none⟩ = some (.string (A i).a)) ∧ (∀ i, i < n → w0.cell? ⟨b, i * 2 + 1, none⟩ = some (.slice (A i).p (A i).l (A i).c)))
    (ih : ∀ i p, ps[i]? = some p → SwpAsk f w0 vt vh p (A i)) (w : World) (hk : Kept w0 w) (hw : w0.heap.size ≤ w.heap.size) :
    Calls Tryz.prog 77 #[.agg #[.string a, .slice pp n cap], .string f, .agg #[.string vh.a, .slice vh.p vh.l vh.c]] w
     fun e w' => ∃ p l c, e = .returned (.agg #[.string a, .slice p l c]) ∧ AccJ w0.heap.size w' (w.heap.size + 4) 43 (.slice p l c) (Tree.swaps f.toList vt ps) ∧ (n = 0 → p = none ∧ l = 0 ∧ c = 0) ∧ Below w.heap.size w w' := by
 obtain ⟨va, vp, vl, vc⟩ := vh
 have HN := hid hn
 have HPP := hid hpp
 have HIH := hid ih
 obtain ⟨W0, hW0⟩ : ∃ W0, W0 = (((w.alloc (.cells #[.string a, .slice pp n cap] 43)).alloc (.cells #[.string va, .slice vp vl vc] 43)).alloc (.cells #[.string ⟨#[]⟩, .slice none 0 0] 43)).alloc (.cells #[.string a, .slice none 0 0] 43) := ⟨_, rfl⟩
 have hW0s : W0.heap.size = w.heap.size + 4 := by rw [hW0]; simp
 have hkW : Kept w0 W0 := by rw [hW0]; exact (((hk.alloc hw _).alloc (by simp; omega) _).alloc (by simp; omega) _).alloc (by simp; omega) _
 have hbelw : Below w.heap.size w W0 := by rw [hW0]; exact ((((Below.refl _ _).alloc (Nat.le_refl _) _).alloc (by simp) _).alloc (by simp; omega) _).alloc (by simp; omega) _
 have hb0 : W0.heap[w.heap.size]? = some (.cells #[.string a, .slice pp n cap] 43 (0, 0)) := by
  rw [hW0, heap_alloc_old _ _ (by simp; omega), heap_alloc_old _ _ (by simp; omega), heap_alloc_old _ _ (by simp)]; exact hea _ _ _ rfl
 have hb1 : W0.heap[w.heap.size + 1]? = some (.cells #[.string va, .slice vp vl vc] 43 (0, 0)) := by
  rw [hW0, heap_alloc_old _ _ (by simp), heap_alloc_old _ _ (by simp)]; exact hea _ _ _ (by simp)
 have hb2 : W0.heap[w.heap.size + 2]? = some (.cells #[.string ⟨#[]⟩, .slice none 0 0] 43 (0, 0)) := by
  rw [hW0, heap_alloc_old _ _ (by simp)]; exact hea _ _ _ (by simp)
 have hb3 : W0.heap[w.heap.size + 3]? = some (.cells #[.string a, .slice none 0 0] 43 (0, 0)) := by
  rw [hW0]; exact hea _ _ _ (by simp)
 have HB0 := hid hb0
 have HB1 := hid hb1
 have HB2 := hid hb2
 have HB3 := hid hb3
 have HK0 := hid hkW
 have HBW := hid hbelw
 have HW0 := hid hW0
 have HW0S := hid hW0s
 obtain ⟨i0, hi0, hz0, hz1, hz2⟩ := info_parts Tryz.infoTree
 clear hn hpp ih hk hkW hbelw hb0 hb1 hb2 hb3 hW0
 go_enter Tryz.func77, Tryz.ntmps77
 go_wp2_with fail
 rw [← HW0.out]
 go_loopw [8] (fun u wr => ∃ (i kc : Nat) (kp : Option Addr), i ≤ n ∧ u = .int .i64 (i : Int) ∧ Hid (wr.heap[w.heap.size + 3]? = some (.cells #[.string a, .slice kp i kc] 43 (0, 0))) ∧ Hid (AccJ w0.heap.size wr (w.heap.size + 4) 43 (.slice kp i kc) (Tree.swaps f.toList vt (ps.take i))) ∧ Hid (i = 0 → kp = none ∧ kc = 0) ∧ Hid (Below (w.heap.size + 3) W0 wr)) (fun u _ => n - (intOf u).toNat)
 case atStart => exact ⟨0, 0, none, Nat.zero_le _, rfl, HB3, hid (AccJ.nil _ _ _ _), hid (fun _ => ⟨rfl, rfl⟩), hid (Below.refl _ _)⟩
 case round =>
  obtain ⟨i, kc, kp, hi, rfl, hb3, hacc, hz3, hbel⟩ := hrel
  have hz := hbel.out.size
  have hkw : Kept w0 wr := HK0.out.below hbel.out (by omega)
  obtain ⟨⟨t0, t1⟩, _, _⟩ := box2g ((hbel.out.block _ (by omega)).trans HB0.out)
  obtain ⟨⟨v0, v1⟩, _, _⟩ := box2g ((hbel.out.block _ (by omega)).trans HB1.out)
  obtain ⟨⟨o0, o1⟩, ⟨fo0, fo1⟩, lo⟩ := box2g hb3.out
  by_cases hlt : i < n
  ·obtain ⟨p, hp⟩ : ∃ p, ps[i]? = some p := ⟨_, List.getElem?_eq_getElem (by rw [HN.out]; exact hlt)⟩
   obtain ⟨b, rfl, hA, hB⟩ := HPP.out (by omega)
   have e0 := hkw.cell (hA i hlt)
   have e1 := hkw.cell (hB i hlt)
   have d1 : (i : Int) < (n : Int) := by omega
   have hkd : Kept w0 wr.drew := hkw.below (Below.refl wr.heap.size wr).drew (by omega)
   have HC := hid (HIH.out i p hp wr.drew hkd (by simp; omega))
   have HSN := hid (show Tree.swaps f.toList vt (ps.take (i + 1)) = Tree.swaps f.toList vt (ps.take i) ++ [Tree.swap f.toList vt p] by rw [swaps_map, swaps_map, List.take_add_one, hp, Option.toList_some, List.map_append]; rfl)
   obtain ⟨ab, hab, howns, hts⟩ := hacc.out
   have hli : (Tree.swaps f.toList vt (ps.take i)).length = i := by rw [swaps_map, List.length_map, List.length_take, HN.out]; omega
   obtain ⟨acc, hac⟩ : ∃ acc, Tree.swaps f.toList vt (ps.take i) = acc := ⟨_, rfl⟩
   rw [hac] at hab howns hts hli HSN
   rw [hli] at howns
   have HAB := hid hab
   have HOW := hid howns
   have HTS := hid hts
   have HLI := hid hli
   have HWR := hid (show w.heap.size + 4 ≤ wr.heap.size from by omega)
   have HB1 := hid (show Below wr.heap.size wr wr.drew from (Below.refl _ _).drew)
   have hli5 : i ≤ 50000 := by omega
   have hko : (Value.slice kp i kc).ownBlock ≠ some (w.heap.size + 3) := fun e => by have := (howns.lt _ e).1; omega
   have HKO := hid hko
   have HTO := hid hb3.out
   have HTB0 := hid ((hbel.out.block _ (by omega)).trans HB0.out)
   clear hp hkw hA hB hkd hab howns hts hac hli hko hacc
   go_wp2_with fail
   go_region_law (first
    | (go_simp; (refine HC.out.mono ?_; rintro e w3 ⟨⟨ha, hp3, hl3, hc3⟩, rfl, hn3, hb33⟩; have HBB := hid (show Below wr.heap.size wr w3 from HB1.out.trans (hb33.mono (by simp))); have HN3 := hid hn3; have hz3' := HBB.out.size; have x3 := box2g (blo HTO.out HBB.out (lt_of_block HTO.out)); obtain ⟨⟨p30, p31⟩, ⟨fp0, fp1⟩, l3⟩ := x3; have y3 := box2g (pai (blo HTO.out HBB.out (lt_of_block HTO.out)) (.cells #[.string ha, .slice hp3 hl3 hc3] 43)); obtain ⟨⟨q30, q31⟩, ⟨fq0, fq1⟩, l4⟩ := y3; clear hb33 hn3))
    | (have _ := hid HBB; refine step_append_lies _ rfl (.tmp 25) (.tmp 34) 41 rfl (w.heap.size + 4) 43 i0 (.agg #[.string ByteArray.empty, .slice none 0 0]) 2 40 Tryz.underlying41 hi0 hz0 hz1 hz2 rfl (by decide) (.slice kp i kc) i (two ab) (by simp [Act.eval]) ((ows HOW.out HBB.out).alloc _) ⟨w3.heap.size, 0, none⟩ 1 1 [.string ha, .slice hp3 hl3 hc3] (by simp [Act.eval]) rfl (cells_new2 _ _ _ _ _ rfl) (by intro u hu; simp at hu; rcases hu with rfl | rfl <;> rfl) (by decide) (by unfold maxLen; omega) (by omega) (by simp; omega) _ rfl ?_; intro g2 kc4 w4 hown4 hg4 hw4 hlt4; have MB4 := hid (blc (pai (blo HTO.out HBB.out (lt_of_block HTO.out)) (.cells #[.string ha, .slice hp3 hl3 hc3] 43)) hg4 HKO.out); have m4 := box2g (blc (pai (blo HTO.out HBB.out (lt_of_block HTO.out)) (.cells #[.string ha, .slice hp3 hl3 hc3] 43)) hg4 HKO.out); obtain ⟨⟨r0, r1⟩, ⟨fr0, fr1⟩, l5⟩ := m4; have HG := hid hg4; have HO4 := hid hown4; have HW := hid hw4; clear hg4 hown4 hw4))
   all_goals
    go_wp2_with fail
    go_roundw
    case rel =>
     refine ⟨i + 1, kc4, some ⟨g2, 0, none⟩, by omega, by go_num, hid (par MB4.out), hid ?_, hid (fun h => by omega), hid ?_⟩
     ·rw [HSN.out]
      refine AccJ.setCell (AccJ.more (a := ⟨ha, hp3, hl3, hc3⟩) (wr := wr) (w1 := w3) (wa := w3.alloc (.cells #[.string ha, .slice hp3 hl3 hc3] 43)) (v := .slice kp i kc) (by omega) HAB.out (by rw [HLI.out]; exact HOW.out) HTS.out HWR.out HBB.out (HN3.out.keep (fun _ _ _ => rfl) (fun k hk _ => by simpa using hk)) ((Below.refl _ _).alloc (Nat.le_refl _) _) (by rw [HLI.out]; exact HO4.out) HG.out (by rcases HW.out with e | e; exact Or.inl e.symm; exact Or.inr (by rw [e]; rfl))) (by show w.heap.size + 3 < w.heap.size + 4; omega) (by show w0.heap.size ≤ w.heap.size + 3; omega) _
     ·have hlo := HOW.out.lt
      exact (((hbel.out.trans (HBB.out.mono (by omega))).alloc (by omega) _).grown HG.out (by simp; omega) (fun k e => by have := (hlo k e).1; omega)).setCell (Nat.le_refl _) _
    case measure => simp [intOf]; omega
  ·have hin : i = n := by omega
   subst hin
   have HE := hid (show ps.take i = ps from List.take_of_length_le (by rw [HN.out]; omega))
   rw [HE.out] at hacc
   have hr2 : wr.heap[w.heap.size + 2]? = some (.cells #[.string ⟨#[]⟩, .slice none 0 0] 43 (0, 0)) := (hbel.out.block _ (by omega)).trans HB2.out
   have HR2 := hid hr2
   obtain ⟨⟨r0, r1⟩, ⟨fr0, fr1⟩, l5⟩ := box2g hr2
   clear hr2 hlt hkw
   go_wp2_with fail
   have hres := par (u := .slice kp i kc) (pae (u := .string a) HR2.out)
   obtain ⟨g0, g1, _, _⟩ := cel hres
   refine bodyPost_ret (v := .agg #[.string a, .slice kp i kc]) (by simp [results, Tryz.results77, go_sem, g0, g1]) rfl ?_
   refine ⟨kp, i, kc, rfl, (hacc.out.setCell (by show w.heap.size + 2 < w.heap.size + 4; omega) (by show w0.heap.size ≤ w.heap.size + 2; omega) _).setCell (by show w.heap.size + 2 < w.heap.size + 4; omega) (by show w0.heap.size ≤ w.heap.size + 2; omega) _, fun h => ⟨(hz3.out h).1, h, (hz3.out h).2⟩, ?_⟩
   have h1 : Below w.heap.size w wr := HBW.out.trans (hbel.out.mono (by omega))
   exact (h1.setCell (by show w.heap.size ≤ w.heap.size + 2; omega) _).setCell (by show w.heap.size ≤ w.heap.size + 2; omega) _
theorem l91Swap_any (f : ByteArray) {w0 : World} {S S2 : Nat → Prop} {vt : Tree} {vh : Hd} (hv : TIn w0 S2 vt vh) {t : Tree} {h : Hd} (ht : TIn w0 S t h) (hf : f.size ≠ 0) : t.wt ≤ 40000 → SwpAsk f w0 vt vh t h := by
 induction ht with
 | atom a hne hm =>
  intro _ w hk hw
  cases hq : a.toList == f.toList with
  | true =>
   have hs : Tree.swap f.toList vt (.atom a) = vt := by rw [Tree.swap, if_pos (by simpa using hq)]
   rw [hs]; exact swp_true f a hv hq none 0 0 w hk hw
  | false =>
   have hs : Tree.swap f.toList vt (.atom a) = .atom a := by rw [Tree.swap, if_neg (by simpa using hq)]
   rw [hs]
   refine (swp_go f a (vt := vt) (vh := vh) (w0 := w0) (A := fun _ => default) hq (ps := []) (pp := none) (n := 0) (cap := 0) rfl (by omega) (fun h => by omega) (fun i p h => by simp at h) w hk hw).mono ?_
   rintro e w' ⟨p, l, c, rfl, _, hz, hb⟩
   obtain ⟨rfl, rfl, rfl⟩ := hz rfl
   exact ⟨⟨a, none, 0, 0⟩, rfl, .atom a hne hm, hb⟩
 | node ps b cap A hp hl hc hS hA hB hps ih =>
  intro hwt w hk hw
  rw [Tree.wt] at hwt
  have hpl := wtl ps
  have hq : ((ByteArray.empty : ByteArray).toList == f.toList) = false := by
   have h2 := ise f hf
   rw [emp]
   cases e : f.toList with
   | nil => rw [e] at h2; cases h2
   | cons x l => rfl
  have hs : Tree.swap f.toList vt (.node ps) = .node (Tree.swaps f.toList vt ps) := by rw [Tree.swap]
  rw [hs]
  refine (swp_go f ByteArray.empty (vt := vt) (vh := vh) hq (ps := ps) (pp := some ⟨b, 0, none⟩) (n := ps.length) (cap := cap) (A := A) rfl (by omega) (fun _ => ⟨b, rfl, hA, hB⟩) (fun i p hp => ih i p hp (by have := wtp ps i p hp; omega)) w hk hw).mono ?_
  rintro e w' ⟨p, l, c, rfl, hacc, _, hb⟩
  have hn := hacc.node (by rw [swaps_map, List.length_map]; exact hp)
  refine ⟨⟨ByteArray.empty, p, l, c⟩, rfl, hn.keep (fun _ _ _ => rfl) (fun k hk _ => by omega), hb⟩
end Go.Proofs.YtfogjomebcponaaGreatDoor
