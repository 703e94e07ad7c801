/- Merged: MvM, MvN. -/
import Derived.Deep.RegionHeld3
import Derived.Deep.AppendLies
import Derived.Test.YtmjhfekcbagibaaGreatDoorEVSMvD
namespace Go.Proofs.YtmjhfekcbagibaaGreatDoor
open Go.RowKit

/-- The first rows one behind the other. -/
def flat7 (C : Nat → List Value) : Nat → List Value
  | 0 => []
  | n + 1 => flat7 C n ++ C n
theorem flat7_len {C : Nat → List Value} : ∀ {n : Nat}, (∀ i, i < n → (C i).length = 7) → (flat7 C n).length = n * 7
  | 0, _ => rfl
  | n + 1, h => by rw [flat7, List.length_append, flat7_len (fun i hi => h i (by omega)), h n (by omega)]; omega
theorem flat7_get {C : Nat → List Value} : ∀ {n : Nat}, (∀ i, i < n → (C i).length = 7) → ∀ i j u, i < n → (C i)[j]? = some u → (flat7 C n)[i * 7 + j]? = some u
  | 0, _, i, j, u, hi, _ => by omega
  | n + 1, h, i, j, u, hi, hj => by
    have hl := flat7_len (C := C) (n := n) (fun i hi => h i (by omega))
    have hjl := (List.getElem?_eq_some_iff.1 hj).1
    have h7 := h i hi
    rw [flat7]
    by_cases hin : i < n
    · have hlt : i * 7 + j < n * 7 := by omega
      rw [List.getElem?_append_left (by omega)]
      exact flat7_get (fun i hi => h i (by omega)) i j u hin hj
    · obtain rfl : i = n := by omega
      rw [List.getElem?_append_right (by omega), hl, Nat.add_sub_cancel_left]; exact hj
theorem flat7_inv {C : Nat → List Value} : ∀ {n : Nat}, (∀ i, i < n → (C i).length = 7) → ∀ k u, (flat7 C n)[k]? = some u → ∃ i j, i < n ∧ k = i * 7 + j ∧ (C i)[j]? = some u
  | 0, _, k, u, hk => by simp [flat7] at hk
  | n + 1, h, k, u, hk => by
    have hl := flat7_len (C := C) (n := n) (fun i hi => h i (by omega))
    rw [flat7] at hk
    by_cases hkn : k < n * 7
    · rw [List.getElem?_append_left (by omega)] at hk
      obtain ⟨i, j, hi, e, hc⟩ := flat7_inv (fun i hi => h i (by omega)) k u hk
      exact ⟨i, j, by omega, e, hc⟩
    · rw [List.getElem?_append_right (by omega), hl] at hk
      exact ⟨n, k - n * 7, by omega, by omega, hk⟩

theorem Tryz.infoV7 : (Tryz.prog.info? 34).map (fun i => (i.zero, i.size, i.bytes)) = some (some (.agg #[.string ({ data := #[] } : ByteArray), .int .i64 0, .slice none 0 0, .string ({ data := #[] } : ByteArray), .slice none 0 0, .slice none 0 0, .slice none 0 0]), 7, 136) := by kernel_rfl

/-- append at a step of a region that draws its order, also of nothing, onto a slice that is not nil. -/
theorem step_append_all {P : Program} (w : World) {ops : Array Oper} {o : Oper} {a : Act} {K : Act → World → Prop} {Q : Exit → Act → World → Prop} {E : Prop} (hgd : o.guard = none) (s x : Operand) (t : TypeId)
    (ho : o.op = .call { callee := .builtin .append, args := #[s, x], argTypes := #[t, t] })
    (base : Nat) (e : TypeId) (i : TypeInfo) (z : Value) (size bytes : Nat) (ht : P.underlying t = some (.slice e)) (hi : P.info? e = some i) (hz : i.zero = some z)
    (hsize : i.size = size) (hby : i.bytes = bytes) (hzs : z.cells.size = size) (hsz : 0 < size)
    (b0 c0 : Nat) (n : Nat) (xs : List Value) (hs : a.eval s = .slice (some ⟨b0, 0, none⟩) n c0) (hown : w.ownsRow base e size (.slice (some ⟨b0, 0, none⟩) n c0) n xs)
    (ad : Addr) (m c : Nat) (news : List Value) (hx : a.eval x = .slice (some ad) m c) (hl : news.length = m * size) (hnews : ∀ j u, news[j]? = some u → w.cell? (ad.add j) = some u) (h1 : ∀ u ∈ news, u.oneCell' = true)
    (h63 : n + m ≤ maxLen) (hbytes : (n + m) * bytes ≤ 140737488355328) (hbase : base ≤ w.heap.size)
    (h : ∀ g cap w', w'.ownsRow base e size (.slice (some ⟨g, 0, none⟩) (n + m) cap) (n + m) (xs ++ news) → w.grownBy w' (some b0) → K (a.put o.dst (.slice (some ⟨g, 0, none⟩) (n + m) cap)) w') :
    if Region.wanted o (yielded ops a.tmps) = true then Oper.wp P o a w K Q else E := by
  have hw : Region.wanted o (yielded ops a.tmps) = true := by simp [Region.wanted, hgd]
  rw [if_pos hw]
  obtain ⟨v', w', hr, h2, h3, h4, _⟩ := run_append_own_at (P := P) w base t o.type e i z size bytes ht hi hz hsize hby hzs hsz (.slice (some ⟨b0, 0, none⟩) n c0) n xs hown ad m c news hl hnews h1 h63 hbytes hbase
  have hv : ∃ g k, v' = .slice (some ⟨g, 0, none⟩) (n + m) k := by
    rcases h2.2 with ⟨hn, _⟩ | ⟨g, k, cur, hv, _⟩
    · have := (h4.1 hn).1; simp at this
    · exact ⟨g, k, hv⟩
  obtain ⟨g, k, rfl⟩ := hv
  unfold Oper.wp execOp
  simp only [ho, resolve, invoke, builtin, Sem.run_bind, Sem.run_pure, Result.andThen_ok, List.map_toArray, List.map_cons, List.map_nil, hs, hx, hr]
  exact h g k w' h2 h3
end Go.Proofs.YtmjhfekcbagibaaGreatDoor

namespace Go.Proofs.YtmjhfekcbagibaaGreatDoor
open Go.RowKit

theorem below_2 (w : World) (o o2 : Obj) : Below w.heap.size w ((w.alloc o).alloc o2) := ((Below.refl _ _).alloc (Nat.le_refl _) o).alloc (by simp) o2
theorem below_3 (w : World) (o o2 o3 : Obj) : Below w.heap.size w (((w.alloc o).alloc o2).alloc o3) := (((Below.refl _ _).alloc (Nat.le_refl _) o).alloc (by simp) o2).alloc (by simp; omega) o3
theorem undrew {W w1 : World} {r : Option Nat} (h : W.drew.grownBy w1 r) : W.grownBy w1 r := ⟨h.os, h.tape, h.output, h.size, h.block⟩
theorem box_A {w w1 : World} {o o2 : Obj} (hg : ((w.alloc o).alloc o2).grownBy w1 (some (w.heap.size + 1))) : w1.heap[w.heap.size]? = some o :=
  (show w1.heap[w.heap.size]? = ((w.alloc o).alloc o2).heap[w.heap.size]? from hg.block w.heap.size (show w.heap.size < ((w.alloc o).alloc o2).heap.size by simp; omega) (ne_some (by omega))).trans ((heap_alloc_old _ _ (by simp)).trans (heap_new w o w.heap.size rfl))
theorem box_B {w w1 : World} {o o2 o3 : Obj} (hg : (((w.alloc o).alloc o2).alloc o3).grownBy w1 (some (w.heap.size + 1))) : w1.heap[w.heap.size]? = some o ∧ w1.heap[w.heap.size + 2]? = some o3 :=
  ⟨(show w1.heap[w.heap.size]? = (((w.alloc o).alloc o2).alloc o3).heap[w.heap.size]? from hg.block w.heap.size (show w.heap.size < (((w.alloc o).alloc o2).alloc o3).heap.size by simp; omega) (ne_some (by omega))).trans ((heap_alloc_old _ _ (by simp; omega)).trans ((heap_alloc_old _ _ (by simp)).trans (heap_new w o w.heap.size rfl))),
   (show w1.heap[w.heap.size + 2]? = (((w.alloc o).alloc o2).alloc o3).heap[w.heap.size + 2]? from hg.block _ (show w.heap.size + 2 < (((w.alloc o).alloc o2).alloc o3).heap.size by simp) (ne_some (by omega))).trans (heap_new _ _ _ (by simp))⟩
theorem box_C {w w1 : World} {o o2 o3 : Obj} (hg : (((w.alloc o).alloc o3).alloc o2).grownBy w1 (some (w.heap.size + 2))) : w1.heap[w.heap.size]? = some o ∧ w1.heap[w.heap.size + 1]? = some o3 :=
  ⟨(show w1.heap[w.heap.size]? = (((w.alloc o).alloc o3).alloc o2).heap[w.heap.size]? from hg.block w.heap.size (show w.heap.size < (((w.alloc o).alloc o3).alloc o2).heap.size by simp; omega) (ne_some (by omega))).trans ((heap_alloc_old _ _ (by simp; omega)).trans ((heap_alloc_old _ _ (by simp)).trans (heap_new w o w.heap.size rfl))),
   (show w1.heap[w.heap.size + 1]? = (((w.alloc o).alloc o3).alloc o2).heap[w.heap.size + 1]? from hg.block _ (show w.heap.size + 1 < (((w.alloc o).alloc o3).alloc o2).heap.size by simp) (ne_some (by omega))).trans ((heap_alloc_old _ _ (by simp)).trans (heap_new _ _ _ (by simp)))⟩
/-- What was there is there, behind an append to a block that is new. -/
theorem own_off {w W w1 : World} {b : Nat} (hg : W.grownBy w1 (some b)) (hB : Below w.heap.size w W) (hb : w.heap.size ≤ b) : Below w.heap.size w w1 :=
  hB.grown hg hB.size (fun k e => by have : b = k := Option.some.inj e
                                     omega)
theorem second_A {w w1 w2 : World} {o o2 : Obj} {g : Nat} (h : w1.heap[w.heap.size]? = some o) (hg : (w1.alloc o2).grownBy w2 (some g)) (hb : w.heap.size + 1 ≤ g) : w2.heap[w.heap.size]? = some o :=
  (hg.block w.heap.size (by have := lt_of_block h; simp; omega) (ne_some (by omega))).trans ((heap_alloc_old _ _ (lt_of_block h)).trans h)
theorem second_B {w w1 w2 : World} {o : Obj} {g : Nat} (h : w1.heap[w.heap.size]? = some o) (hg : w1.grownBy w2 (some g)) (hb : w.heap.size + 1 ≤ g) : w2.heap[w.heap.size]? = some o :=
  (hg.block w.heap.size (lt_of_block h) (ne_some (by omega))).trans h
theorem cells7_alloc {w : World} {b : Nat} {x0 x1 x2 x3 x4 x5 x6 : Value} (h : w.cell? ⟨b, 0, none⟩ = some x0 ∧ w.cell? ⟨b, 1, none⟩ = some x1 ∧ w.cell? ⟨b, 2, none⟩ = some x2 ∧ w.cell? ⟨b, 3, none⟩ = some x3 ∧ w.cell? ⟨b, 4, none⟩ = some x4 ∧ w.cell? ⟨b, 5, none⟩ = some x5 ∧ w.cell? ⟨b, 6, none⟩ = some x6) (o : Obj) : (w.alloc o).cell? ⟨b, 0, none⟩ = some x0 ∧ (w.alloc o).cell? ⟨b, 1, none⟩ = some x1 ∧ (w.alloc o).cell? ⟨b, 2, none⟩ = some x2 ∧ (w.alloc o).cell? ⟨b, 3, none⟩ = some x3 ∧ (w.alloc o).cell? ⟨b, 4, none⟩ = some x4 ∧ (w.alloc o).cell? ⟨b, 5, none⟩ = some x5 ∧ (w.alloc o).cell? ⟨b, 6, none⟩ = some x6 :=
  ⟨alloc_cell h.1 o, alloc_cell h.2.1 o, alloc_cell h.2.2.1 o, alloc_cell h.2.2.2.1 o, alloc_cell h.2.2.2.2.1 o, alloc_cell h.2.2.2.2.2.1 o, alloc_cell h.2.2.2.2.2.2 o⟩

set_option maxRecDepth 100000 in
set_option maxHeartbeats 4000000 in
theorem l7More_any {w : World} {gv n vc : Nat} {C : Nat → List Value} (hn : n ≤ 1000000) (hlen : ∀ i, i < n → (C i).length = 7) (hrow : ∀ i, i < n → ∀ j u, (C i)[j]? = some u → w.cell? ⟨gv, i * 7 + j, none⟩ = some u) (hone : ∀ i, i < n → ∀ u ∈ C i, u.oneCell' = true)
    (kk : ByteArray) (nn : Int) (pp : Option Addr) (pl pc : Nat) (fa : ByteArray) (fp : Option Addr) (fl2 fc : Nat) (np2 : Option Addr) (nl2 nc2 : Nat) (vp : Option Addr) (vl vc2 : Nat) :
    Calls Tryz.prog 19 #[.slice (some ⟨gv, 0, none⟩) n vc, .agg #[.string kk, .int .i64 nn, .slice pp pl pc, .string fa, .slice fp fl2 fc, .slice np2 nl2 nc2, .slice vp vl vc2]] w fun e w' => ∃ g c, e = .returned (.slice (some ⟨g, 0, none⟩) (n + 1) c) ∧ w.heap.size ≤ g ∧ g < w'.heap.size ∧ Below w.heap.size w w' ∧
      (∀ i, i < n → ∀ j u, (C i)[j]? = some u → w'.cell? ⟨g, i * 7 + j, none⟩ = some u) ∧ (∀ j u, ([.string kk, .int .i64 nn, .slice pp pl pc, .string fa, .slice fp fl2 fc, .slice np2 nl2 nc2, .slice vp vl vc2] : List Value)[j]? = some u → w'.cell? ⟨g, n * 7 + j, none⟩ = some u) := by
  obtain ⟨i0, hi0, hz0, hz1, hz2⟩ := info_parts Tryz.infoV7
  obtain ⟨⟨d0, d1, d2, d3, d4, d5, d6⟩, -⟩ := cells_of_7 (heap_new w (.cells #[.string kk, .int .i64 nn, .slice pp pl pc, .string fa, .slice fp fl2 fc, .slice np2 nl2 nc2, .slice vp vl vc2] 34) w.heap.size rfl)
  have oA : World.ownsRow ((w.alloc (.cells #[.string kk, .int .i64 nn, .slice pp pl pc, .string fa, .slice fp fl2 fc, .slice np2 nl2 nc2, .slice vp vl vc2] 34)).alloc (.cells #[] 34)) (w.heap.size + 1) 34 7 (.slice (some ⟨w.heap.size + 1, 0, none⟩) 0 0) 0 [] := by
    have h := World.ownsRow_made (w := w.alloc (.cells #[.string kk, .int .i64 nn, .slice pp pl pc, .string fa, .slice fp fl2 fc, .slice np2 nl2 nc2, .slice vp vl vc2] 34)) (base := w.heap.size + 1) (e := 34) (size := 7) #[] 0 (by simp) (by simp) (by simp)
    rw [show (w.alloc (.cells #[.string kk, .int .i64 nn, .slice pp pl pc, .string fa, .slice fp fl2 fc, .slice np2 nl2 nc2, .slice vp vl vc2] 34)).heap.size = w.heap.size + 1 from by simp] at h; exact h
  have oC : World.ownsRow (((w.alloc (.cells #[.string kk, .int .i64 nn, .slice pp pl pc, .string fa, .slice fp fl2 fc, .slice np2 nl2 nc2, .slice vp vl vc2] 34)).alloc (.cells #[.string kk, .int .i64 nn, .slice pp pl pc, .string fa, .slice fp fl2 fc, .slice np2 nl2 nc2, .slice vp vl vc2] 34)).alloc (.cells #[] 34)) (w.heap.size + 1) 34 7 (.slice (some ⟨w.heap.size + 2, 0, none⟩) 0 0) 0 [] := by
    have h := World.ownsRow_made (w := (w.alloc (.cells #[.string kk, .int .i64 nn, .slice pp pl pc, .string fa, .slice fp fl2 fc, .slice np2 nl2 nc2, .slice vp vl vc2] 34)).alloc (.cells #[.string kk, .int .i64 nn, .slice pp pl pc, .string fa, .slice fp fl2 fc, .slice np2 nl2 nc2, .slice vp vl vc2] 34)) (base := w.heap.size + 1) (e := 34) (size := 7) #[] 0 (by simp) (by simp) (by simp)
    rw [show ((w.alloc (.cells #[.string kk, .int .i64 nn, .slice pp pl pc, .string fa, .slice fp fl2 fc, .slice np2 nl2 nc2, .slice vp vl vc2] 34)).alloc (.cells #[.string kk, .int .i64 nn, .slice pp pl pc, .string fa, .slice fp fl2 fc, .slice np2 nl2 nc2, .slice vp vl vc2] 34)).heap.size = w.heap.size + 2 from by simp] at h; exact h
  have OA := hid oA
  have OB := hid (oA.alloc (.cells #[.string kk, .int .i64 nn, .slice pp pl pc, .string fa, .slice fp fl2 fc, .slice np2 nl2 nc2, .slice vp vl vc2] 34))
  have OC := hid oC
  have BA := hid (below_2 w (.cells #[.string kk, .int .i64 nn, .slice pp pl pc, .string fa, .slice fp fl2 fc, .slice np2 nl2 nc2, .slice vp vl vc2] 34) (.cells #[] 34))
  have BB := hid (below_3 w (.cells #[.string kk, .int .i64 nn, .slice pp pl pc, .string fa, .slice fp fl2 fc, .slice np2 nl2 nc2, .slice vp vl vc2] 34) (.cells #[] 34) (.cells #[.string kk, .int .i64 nn, .slice pp pl pc, .string fa, .slice fp fl2 fc, .slice np2 nl2 nc2, .slice vp vl vc2] 34))
  have BC := hid (below_3 w (.cells #[.string kk, .int .i64 nn, .slice pp pl pc, .string fa, .slice fp fl2 fc, .slice np2 nl2 nc2, .slice vp vl vc2] 34) (.cells #[.string kk, .int .i64 nn, .slice pp pl pc, .string fa, .slice fp fl2 fc, .slice np2 nl2 nc2, .slice vp vl vc2] 34) (.cells #[] 34))
  clear oA oC
  have HNEWS := hid (fun (W : World) (hb : ∀ k, k < w.heap.size → W.heap[k]? = w.heap[k]?) (j : Nat) (u : Value) (hj : (flat7 C n)[j]? = some u) => (show W.cell? ((⟨gv, 0, none⟩ : Addr).add j) = some u from by
    obtain ⟨i, k, hi, e, hc⟩ := flat7_inv hlen j u hj
    have hadd : (⟨gv, 0, none⟩ : Addr).add j = ⟨gv, j, none⟩ := by unfold Addr.add; split <;> simp_all
    rw [hadd, e]
    have h := hrow i hi k u hc
    exact (World.cell?_of_block (w := w) (hb gv (World.block_lt_of_cell? w _ h))).trans h))
  have HONE := hid (fun u (hu : u ∈ flat7 C n) => (show u.oneCell' = true from by
    obtain ⟨j, hj⟩ := List.getElem?_of_mem hu
    obtain ⟨i, k, hi, _, hc⟩ := flat7_inv hlen j u hj
    exact hone i hi u (List.mem_of_getElem? hc)))
  have HL := hid hlen
  clear hlen hrow hone
  go_enter Tryz.func19, Tryz.ntmps19
  go_wp2_with fail
  go_region_held3 (fun w' => w'.cell? ⟨w.heap.size, 0, none⟩ = some (.string kk) ∧ w'.cell? ⟨w.heap.size, 1, none⟩ = some (.int .i64 nn) ∧ w'.cell? ⟨w.heap.size, 2, none⟩ = some (.slice pp pl pc) ∧ w'.cell? ⟨w.heap.size, 3, none⟩ = some (.string fa) ∧ w'.cell? ⟨w.heap.size, 4, none⟩ = some (.slice fp fl2 fc) ∧ w'.cell? ⟨w.heap.size, 5, none⟩ = some (.slice np2 nl2 nc2) ∧ w'.cell? ⟨w.heap.size, 6, none⟩ = some (.slice vp vl vc2))
    (first | exact ⟨d0, d1, d2, d3, d4, d5, d6⟩ | exact cells7_alloc ⟨d0, d1, d2, d3, d4, d5, d6⟩ _ | exact cells7_alloc (cells7_alloc ⟨d0, d1, d2, d3, d4, d5, d6⟩ _) _ | exact E4.out | exact E1.out | exact cells7_alloc E1.out _ | go_keep)
    (first
      | (have _ := HO1; have _ := NB; (refine step_append_all _ rfl (.tmp 7) (.tmp 9) 31 rfl (w.heap.size + 1) 34 i0 (.agg #[.string ({ data := #[] } : ByteArray), .int .i64 0, .slice none 0 0, .string ({ data := #[] } : ByteArray), .slice none 0 0, .slice none 0 0, .slice none 0 0]) 7 136 Tryz.underlying31 hi0 hz0 hz1 hz2 rfl (by decide) g1 c1 n (flat7 C n) (by simp [Act.eval]) (HO1.out) ⟨w.heap.size + 2, 0, none⟩ 1 1 [.string kk, .int .i64 nn, .slice pp pl pc, .string fa, .slice fp fl2 fc, .slice np2 nl2 nc2, .slice vp vl vc2] (by simp [Act.eval]) rfl (World.news_of_block (NB.out)) (by simp [Value.oneCell']) (by unfold maxLen; omega) (by omega) (by first | omega | (simp; omega)) ?_; intro g2 c2 w2 ho2 hg2; have hg1b := (HO1.out.lt g1 rfl).1; have EB2 := hid (second_B EB.out hg2 hg1b); have E4 := hid (cells_of_7 EB2.out).1; have HG2 := hid (own_off hg2 (HG1.out) (by omega)); have HO2 := hid ho2; clear ho2 hg2))
      | (have _ := HO1; have _ := NC; (refine step_append_all _ rfl (.tmp 7) (.tmp 9) 31 rfl (w.heap.size + 1) 34 i0 (.agg #[.string ({ data := #[] } : ByteArray), .int .i64 0, .slice none 0 0, .string ({ data := #[] } : ByteArray), .slice none 0 0, .slice none 0 0, .slice none 0 0]) 7 136 Tryz.underlying31 hi0 hz0 hz1 hz2 rfl (by decide) g1 c1 n (flat7 C n) (by simp [Act.eval]) (HO1.out) ⟨w.heap.size + 1, 0, none⟩ 1 1 [.string kk, .int .i64 nn, .slice pp pl pc, .string fa, .slice fp fl2 fc, .slice np2 nl2 nc2, .slice vp vl vc2] (by simp [Act.eval]) rfl (World.news_of_block (NC.out)) (by simp [Value.oneCell']) (by unfold maxLen; omega) (by omega) (by first | omega | (simp; omega)) ?_; intro g2 c2 w2 ho2 hg2; have hg1b := (HO1.out.lt g1 rfl).1; have EB2 := hid (second_B EB.out hg2 hg1b); have E4 := hid (cells_of_7 EB2.out).1; have HG2 := hid (own_off hg2 (HG1.out) (by omega)); have HO2 := hid ho2; clear ho2 hg2))
      | (have _ := HO1; (refine step_append_all _ rfl (.tmp 7) (.tmp 9) 31 rfl (w.heap.size + 1) 34 i0 (.agg #[.string ({ data := #[] } : ByteArray), .int .i64 0, .slice none 0 0, .string ({ data := #[] } : ByteArray), .slice none 0 0, .slice none 0 0, .slice none 0 0]) 7 136 Tryz.underlying31 hi0 hz0 hz1 hz2 rfl (by decide) g1 c1 n (flat7 C n) (by simp [Act.eval]) (HO1.out.alloc _) ⟨w1.heap.size, 0, none⟩ 1 1 [.string kk, .int .i64 nn, .slice pp pl pc, .string fa, .slice fp fl2 fc, .slice np2 nl2 nc2, .slice vp vl vc2] (by simp [Act.eval]) rfl (World.news_of_block (heap_new w1 (.cells #[.string kk, .int .i64 nn, .slice pp pl pc, .string fa, .slice fp fl2 fc, .slice np2 nl2 nc2, .slice vp vl vc2] 34) w1.heap.size rfl)) (by simp [Value.oneCell']) (by unfold maxLen; omega) (by omega) (by first | omega | (simp; omega)) ?_; intro g2 c2 w2 ho2 hg2; have hg1b := (HO1.out.lt g1 rfl).1; have EB2 := hid (second_A EB.out hg2 hg1b); have E4 := hid (cells_of_7 EB2.out).1; have HG2 := hid (own_off hg2 (HG1.out.alloc HG1.out.size _) (by omega)); have HO2 := hid ho2; clear ho2 hg2))
      | ((refine step_append_all _ rfl (.tmp 5) (.tmp 6) 31 rfl (w.heap.size + 1) 34 i0 (.agg #[.string ({ data := #[] } : ByteArray), .int .i64 0, .slice none 0 0, .string ({ data := #[] } : ByteArray), .slice none 0 0, .slice none 0 0, .slice none 0 0]) 7 136 Tryz.underlying31 hi0 hz0 hz1 hz2 rfl (by decide) (w.heap.size + 1) 0 0 [] (by simp [Act.eval]) (OA.out) ⟨gv, 0, none⟩ n vc (flat7 C n) (by simp [Act.eval]) (flat7_len HL.out) (HNEWS.out _ (BA.out).block) HONE.out (by unfold maxLen; omega) (by omega) (by simp) ?_; intro g1 c1 w1 ho1 hg0; have hg1 := (by first | exact undrew hg0 | exact hg0 : World.grownBy ((w.alloc (.cells #[.string kk, .int .i64 nn, .slice pp pl pc, .string fa, .slice fp fl2 fc, .slice np2 nl2 nc2, .slice vp vl vc2] 34)).alloc (.cells #[] 34)) w1 _); clear hg0; simp only [Nat.zero_add, List.nil_append] at ho1; have EB := hid (box_A hg1); have E1 := hid (cells_of_7 EB.out).1; have HG1 := hid (own_off hg1 (BA.out) (by omega)); have z1 : w.heap.size < w1.heap.size := lt_of_block EB.out; have HO1 := hid ho1; clear ho1 hg1))
      | ((refine step_append_all _ rfl (.tmp 5) (.tmp 6) 31 rfl (w.heap.size + 1) 34 i0 (.agg #[.string ({ data := #[] } : ByteArray), .int .i64 0, .slice none 0 0, .string ({ data := #[] } : ByteArray), .slice none 0 0, .slice none 0 0, .slice none 0 0]) 7 136 Tryz.underlying31 hi0 hz0 hz1 hz2 rfl (by decide) (w.heap.size + 1) 0 0 [] (by simp [Act.eval]) (OB.out) ⟨gv, 0, none⟩ n vc (flat7 C n) (by simp [Act.eval]) (flat7_len HL.out) (HNEWS.out _ (BB.out).block) HONE.out (by unfold maxLen; omega) (by omega) (by simp) ?_; intro g1 c1 w1 ho1 hg0; have hg1 := (by first | exact undrew hg0 | exact hg0 : World.grownBy (((w.alloc (.cells #[.string kk, .int .i64 nn, .slice pp pl pc, .string fa, .slice fp fl2 fc, .slice np2 nl2 nc2, .slice vp vl vc2] 34)).alloc (.cells #[] 34)).alloc (.cells #[.string kk, .int .i64 nn, .slice pp pl pc, .string fa, .slice fp fl2 fc, .slice np2 nl2 nc2, .slice vp vl vc2] 34)) w1 _); clear hg0; simp only [Nat.zero_add, List.nil_append] at ho1; have NB := hid (box_B hg1).2; have EB := hid (box_B hg1).1; have E1 := hid (cells_of_7 EB.out).1; have HG1 := hid (own_off hg1 (BB.out) (by omega)); have z1 : w.heap.size < w1.heap.size := lt_of_block EB.out; have HO1 := hid ho1; clear ho1 hg1))
      | ((refine step_append_all _ rfl (.tmp 5) (.tmp 6) 31 rfl (w.heap.size + 1) 34 i0 (.agg #[.string ({ data := #[] } : ByteArray), .int .i64 0, .slice none 0 0, .string ({ data := #[] } : ByteArray), .slice none 0 0, .slice none 0 0, .slice none 0 0]) 7 136 Tryz.underlying31 hi0 hz0 hz1 hz2 rfl (by decide) (w.heap.size + 2) 0 0 [] (by simp [Act.eval]) (OC.out) ⟨gv, 0, none⟩ n vc (flat7 C n) (by simp [Act.eval]) (flat7_len HL.out) (HNEWS.out _ (BC.out).block) HONE.out (by unfold maxLen; omega) (by omega) (by simp) ?_; intro g1 c1 w1 ho1 hg0; have hg1 := (by first | exact undrew hg0 | exact hg0 : World.grownBy (((w.alloc (.cells #[.string kk, .int .i64 nn, .slice pp pl pc, .string fa, .slice fp fl2 fc, .slice np2 nl2 nc2, .slice vp vl vc2] 34)).alloc (.cells #[.string kk, .int .i64 nn, .slice pp pl pc, .string fa, .slice fp fl2 fc, .slice np2 nl2 nc2, .slice vp vl vc2] 34)).alloc (.cells #[] 34)) w1 _); clear hg0; simp only [Nat.zero_add, List.nil_append] at ho1; have NC := hid (box_C hg1).2; have EB := hid (box_C hg1).1; have E1 := hid (cells_of_7 EB.out).1; have HG1 := hid (own_off hg1 (BC.out) (by omega)); have z1 : w.heap.size < w1.heap.size := lt_of_block EB.out; have HO1 := hid ho1; clear ho1 hg1))
)
  all_goals
    go_wp2_with fail
    go_ret
    have hfl := flat7_len HL.out
    have hcell : ∀ k u, (flat7 C n ++ [.string kk, .int .i64 nn, .slice pp pl pc, .string fa, .slice fp fl2 fc, .slice np2 nl2 nc2, .slice vp vl vc2])[k]? = some u → _ := fun k u hk => HO2.out.cells (g := g2) rfl k u hk
    have hadd : ∀ k, (⟨g2, 0, none⟩ : Addr).add k = ⟨g2, k, none⟩ := fun k => by unfold Addr.add; split <;> simp_all
    refine ⟨g2, c2, rfl, by have := (HO2.out.lt g2 rfl).1; omega, (HO2.out.lt g2 rfl).2, HG2.out, fun i hi j u hj => ?_, fun j u hj => ?_⟩
    · have hf := flat7_get HL.out i j u hi hj
      have h := hcell (i * 7 + j) u (by rw [List.getElem?_append_left (List.getElem?_eq_some_iff.1 hf).1]; exact hf)
      rw [hadd] at h; exact h
    · have h := hcell (n * 7 + j) u (by rw [List.getElem?_append_right (by omega), hfl, Nat.add_sub_cancel_left]; exact hj)
      rw [hadd] at h; exact h
end Go.Proofs.YtmjhfekcbagibaaGreatDoor
