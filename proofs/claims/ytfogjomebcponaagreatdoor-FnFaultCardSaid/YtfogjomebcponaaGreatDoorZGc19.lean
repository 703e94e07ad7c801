/- Merged: ZGSExtT, ZGSExtF. -/
import Derived.Shelf.Abstract
import Derived.Test.YtfogjomebcponaaGreatDoorZG20
namespace Go.Proofs.YtfogjomebcponaaGreatDoor
open Go.RowKit
set_option maxRecDepth 100000
set_option maxHeartbeats 2000000
theorem exOk_le {e p : Ex} (h : p.ok) (h1 : e.a ≤ p.a) (h2 : e.b ≤ p.b) (h3 : e.n ≤ p.n) : e.ok := ⟨Nat.le_trans h1 h.1, Nat.le_trans h2 h.2.1, Nat.le_trans h3 h.2.2⟩
theorem exL_ok {e0 : Ex} {l : List Ex} (h : (wis e0 l).ok) (i : Nat) : (wis e0 (l.take i)).ok :=
 exOk_le h (wis_take e0 l i).1 (wis_take e0 l i).2.1 (wis_take e0 l i).2.2
theorem exP_ok {e0 : Ex} {l : List Ex} (h : (wis e0 l).ok) {i : Nat} {p : Ex} (hp : l[i]? = some p) : p.ok := by
 have h1 := exL_ok h (i + 1)
 rw [wis_snoc e0 l i p hp] at h1
 exact exOk_le h1 (by show p.a ≤ _ + p.a; omega) (by show p.b ≤ _ + 1 + p.b; omega) (by show p.n ≤ max _ (1 + p.n); omega)
structure Bxe (b : Nat) (w w' : World) : Prop where
 os : w'.os = w.os
 tape : w'.tape = w.tape
 output : w'.output = w.output
 size : w.heap.size ≤ w'.heap.size
 block : ∀ k, k < w.heap.size → k ≠ b → w'.heap[k]? = w.heap[k]?
theorem Bxe.refl (b : Nat) (w : World) : Bxe b w w := ⟨rfl, rfl, rfl, Nat.le_refl _, fun _ _ _ => rfl⟩
theorem Bxe.trans {b : Nat} {w w1 w2 : World} (h : Bxe b w w1) (k : Bxe b w1 w2) : Bxe b w w2 :=
 ⟨k.os.trans h.os, k.tape.trans h.tape, k.output.trans h.output, Nat.le_trans h.size k.size, fun i hi hb => (k.block i (Nat.lt_of_lt_of_le hi h.size) hb).trans (h.block i hi hb)⟩
theorem Bxe.of_below {b B : Nat} {w w' : World} (h : Below B w w') (hB : w.heap.size ≤ B) : Bxe b w w' := ⟨h.os, h.tape, h.output, h.size, fun k hk _ => h.block k (by omega)⟩
theorem Bxe.to_below {b B : Nat} {w w' : World} (h : Bxe b w w') (hb : B ≤ b) (hB : B ≤ w.heap.size) : Below B w w' := ⟨h.os, h.tape, h.output, h.size, fun k hk => h.block k (by omega) (by omega)⟩
theorem Bxe.cell {b : Nat} {w w' : World} (h : Bxe b w w') {a : Addr} {v : Value} (ha : a.block ≠ b) (hc : w.cell? a = some v) : w'.cell? a = some v :=
 (World.cell?_of_block (w := w) (h.block _ (World.block_lt_of_cell? w a hc) ha)).trans hc
theorem Bxe.set {b i : Nat} {w w' : World} (h : Bxe b w w') (v : Value) : Bxe b w (w'.setCell ⟨b, i, none⟩ v) :=
 ⟨h.os, h.tape, h.output, Nat.le_trans h.size (by simp [World.setCell]), fun k hk hb => (Below.heap_setCell _ _ _ _ hb).trans (h.block k hk hb)⟩
def ExB (w : World) (b : Nat) (e : Ex) : Prop := w.heap[b]? = some (.cells #[.int .i64 (e.a : Int), .int .i64 (e.b : Int), .int .i64 (e.n : Int)] 72 (0, 0))
theorem exb {w : World} {b : Nat} {e : Ex} (h : ExB w b e) : (w.cell? ⟨b, 0, none⟩ = some (.int .i64 (e.a : Int)) ∧ w.cell? ⟨b, 1, none⟩ = some (.int .i64 (e.b : Int)) ∧ w.cell? ⟨b, 2, none⟩ = some (.int .i64 (e.n : Int))) ∧ (w.frozen? ⟨b, 0, none⟩ = false ∧ w.frozen? ⟨b, 1, none⟩ = false ∧ w.frozen? ⟨b, 2, none⟩ = false) ∧ b < w.heap.size := by
 refine ⟨?_, ?_, lt_of_block h⟩
 ·unfold ExB at h; simp [World.cell?, h]
 ·unfold ExB at h; simp [World.frozen?, h]
theorem exB_set {w : World} {b : Nat} {x y z u0 u1 u2 : Value} {t : TypeId} (h : w.heap[b]? = some (.cells #[x, y, z] t (0, 0))) : (((w.setCell ⟨b, 0, none⟩ u0).setCell ⟨b, 1, none⟩ u1).setCell ⟨b, 2, none⟩ u2).heap[b]? = some (.cells #[u0, u1, u2] t (0, 0)) := by
 have one : ∀ {w : World} {l : Array Value} (i : Nat) (u : Value), w.heap[b]? = some (.cells l t (0, 0)) → (w.setCell ⟨b, i, none⟩ u).heap[b]? = some (.cells (l.setIfInBounds i u) t (0, 0)) := by
  intro w l i u h
  have hlt := lt_of_block h
  have h' : w.heap[b] = .cells l t (0, 0) := by simpa [Array.getElem?_eq_getElem hlt] using h
  show (w.heap.modify b _)[b]? = _
  rw [Array.getElem?_eq_getElem (by simpa using hlt), Array.getElem_modify_self, h']
  rfl
 exact one 2 u2 (one 1 u1 (one 0 u0 h))
theorem exk {w w' : World} {b B : Nat} {e : Ex} (h : ExB w b e) (hb : Below B w w') (hB : b < B) : ExB w' b e := (hb.block b hB).trans h
theorem extT_go (n f g : Nat) (v : Value) (l : List Ty) (hb : ByteArray) (k : Nat) (hk : l.length = k) (hk1 : 1 ≤ k) (hk2 : k ≤ 2) (hz : hb.size = 1) (hok : (wis (Ex.head 1) (l.map Ty.ex)).ok)
    (he : ∀ args w, (callFunc f args).run Tryz.prog w = .ok (.enter f args) w) (mk : ∀ w, (method 338 n v "loop.example/pushvalue/impl.kids").run Tryz.prog w = .ok (f, v) w) (hkids : ∀ W, Calls Tryz.prog f #[v] W (KidsOk l W))
    (hg : ∀ args w, (callFunc g args).run Tryz.prog w = .ok (.enter g args) w) (mh : ∀ w, (method 338 n v "loop.example/pushvalue/impl.head").run Tryz.prog w = .ok (g, v) w) (hhead : ∀ W, Calls Tryz.prog g #[v] W fun e w' => e = .returned (.string hb) ∧ Below W.heap.size W w')
    (ih : ∀ (i : Nat) (t : Ty), l[i]? = some t → ∀ W, Calls Tryz.prog 82 #[t.val] W fun e w' => e = .returned (exV t.ex) ∧ Below W.heap.size W w') (w : World) :
    Calls Tryz.prog 82 #[.iface n v] w fun e w' => e = .returned (exV (wis (Ex.head 1) (l.map Ty.ex))) ∧ Below w.heap.size w w' := by
 have HK := hid hk
 have HC := hid hkids
 have HH := hid hhead
 have HIH := hid ih
 have HOK := hid hok
 have HEH := hid (fun W => (show Calls Tryz.prog 80 #[.string hb] W fun e w' => e = .returned (.agg #[.int .i64 1, .int .i64 3, .int .i64 1]) ∧ Below W.heap.size W w' from by have h := exHead_any hb (by omega) W; rw [hz] at h; exact h))
 have hki : (0 : Int) < (k : Int) := by omega
 have hke : ((k : Int) == 0) = false := beq_eq_false_iff_ne.2 (by omega)
 have hz00 : (w.alloc (.cells #[.int .i64 0, .int .i64 0, .int .i64 0] 72)).heap.size = w.heap.size + 1 := by simp
 have HB0 := hid (show Below w.heap.size w (w.alloc (.cells #[.int .i64 0, .int .i64 0, .int .i64 0] 72)) from (Below.refl _ _).alloc (Nat.le_refl _) _)
 have HE0 := hid (show ExB (w.alloc (.cells #[.int .i64 0, .int .i64 0, .int .i64 0] 72)) w.heap.size ⟨0, 0, 0⟩ from hea w _ _ rfl)
 clear hk hkids ih hhead hok
 go_enter Tryz.func82, Tryz.ntmps82
 go_wp2_with fail
 go_at_fn f
 refine (HC.out _).mono ?_
 rintro e w1 ⟨p, c, rfl, hv, hb1⟩
 rw [HK.out]
 have HV := hid hv
 have hz1 := hb1.size
 have HB1 := hid (HB0.out.trans (hb1.mono (by omega)))
 have HE1 := hid (exk HE0.out hb1 (by omega))
 clear hv
 go_wp2_with fail
 go_at_fn g
 refine (HH.out _).mono ?_
 rintro e w2 ⟨rfl, hb2⟩
 have hz2 := hb2.size
 go_wp2_with fail
 go_at_call 80
 refine (HEH.out _).mono ?_
 rintro e w3 ⟨rfl, hb3⟩
 have hz3 := hb3.size
 have HX3 := hid ((Bxe.of_below (b := w3.heap.size) hb2 (Nat.le_refl _)).trans (Bxe.of_below hb3 (Nat.le_refl _)))
 have HE4 := hid (show ExB (w3.alloc (.cells #[.int .i64 1, .int .i64 3, .int .i64 1] 72)) w3.heap.size (Ex.head 1) from hea w3 _ _ rfl)
 have HB4 := hid (HX3.out.trans (Bxe.of_below (b := w3.heap.size) ((Below.refl w3.heap.size w3).alloc (Nat.le_refl _) (.cells #[.int .i64 1, .int .i64 3, .int .i64 1] 72)) (Nat.le_refl _)))
 clear hb1 hb2 hb3
 go_wp2_with fail
 go_loopw [20] (fun u wr => ∃ i : Nat, i ≤ k ∧ u = .int .i64 (i : Int) ∧ Hid (ExB wr w3.heap.size (wis (Ex.head 1) ((l.map Ty.ex).take i))) ∧ Hid (Bxe w3.heap.size w1 wr)) (fun u _ => k - (intOf u).toNat)
 case atStart => exact ⟨0, Nat.zero_le _, rfl, HE4, HB4⟩
 case round =>
  obtain ⟨i, hi, rfl, hE, hX⟩ := hrel
  have hz := hX.out.size
  by_cases hlt : i < k
  ·obtain ⟨t, ht⟩ : ∃ t, l[i]? = some t := ⟨_, List.getElem?_eq_getElem (by rw [HK.out]; exact hlt)⟩
   obtain ⟨b, o, rfl, hc⟩ := HV.out i t.val (by simp [ht])
   have hne : (⟨b, o + i, none⟩ : Addr).block ≠ w3.heap.size := by have := World.block_lt_of_cell? w1 _ hc; omega
   have hcc := hX.out.cell hne hc
   have HT := hid (fun W => HIH.out i t ht W)
   have hti : (l.map Ty.ex)[i]? = some t.ex := by simp [ht]
   have hsn := wis_snoc (Ex.head 1) (l.map Ty.ex) i t.ex hti
   have hok1 := exL_ok HOK.out i
   have hok2 := exP_ok HOK.out hti
   obtain ⟨E, hEE⟩ : ∃ E, wis (Ex.head 1) ((l.map Ty.ex).take i) = E := ⟨_, rfl⟩
   rw [hEE] at hE hsn hok1
   have HSN := hid hsn
   have HO1 := hid hok1
   have HO2 := hid hok2
   obtain ⟨TX, hTX⟩ : ∃ TX, t.ex = TX := ⟨_, rfl⟩
   rw [hTX] at HT HSN HO2
   have HWI := hid (fun W => (show Calls Tryz.prog 81 #[.agg #[.int .i64 (E.a : Int), .int .i64 (E.b : Int), .int .i64 (E.n : Int)], exV TX] W fun r w' => r = .returned (.agg #[.int .i64 ((E.wi TX).a : Int), .int .i64 ((E.wi TX).b : Int), .int .i64 ((E.wi TX).n : Int)]) ∧ Below W.heap.size W w' from exWith_any E TX HO1.out HO2.out W))
   have HEd := hid (exk hE.out ((Below.refl wr.heap.size wr).drew) (lt_of_block hE.out))
   obtain ⟨⟨c0, c1, c2⟩, ⟨z0, z1, z2⟩, l0⟩ := exb hE.out
   have hdd := exb HEd.out
   have HDD := hid hdd.1
   have HLD := hid hdd.2.2
   have d1 : (i : Int) < (k : Int) := by omega
   clear hc ht hti hsn hok1 hok2 hEE hTX hdd
   go_wp2_with fail
   have e0 := HDD.out.1
   have e1 := HDD.out.2.1
   have e2 := HDD.out.2.2
   go_region_with (first
       | (have _ := HE5
          go_at_call 81
          refine (HWI.out _).mono ?_
          rintro e w6 ⟨rfl, hb6⟩
          have hE6 := exk HE5.out hb6 (lt_of_block HE5.out)
          have HE6 := hid hE6
          obtain ⟨x0, x1, x2⟩ := (exb hE6).1
          obtain ⟨y0, y1, y2⟩ := (exb hE6).2.1
          have l6 := (exb hE6).2.2
          have HB6 := hid (HB5.out.trans (Bxe.of_below hb6 (Nat.le_refl _)))
          clear hb6 hE6)
       | (go_at_call 82
          refine (HT.out _).mono ?_
          rintro e w5 ⟨rfl, hb5⟩
          have HE5 := hid (exk HEd.out hb5 HLD.out)
          obtain ⟨q0, q1, q2⟩ := (exb HE5.out).1
          have HB5 := hid (show Bxe w3.heap.size wr w5 from (Bxe.of_below (Below.refl wr.heap.size wr).drew (Nat.le_refl _)).trans (Bxe.of_below hb5 (Nat.le_refl _)))
          clear hb5))
   all_goals
    go_wp2_with fail
    go_roundw
    case rel => exact ⟨i + 1, by omega, by go_num, hid (by rw [HSN.out]; exact exB_set HE6.out), hid (hX.out.trans (((HB6.out.set _).set _).set _))⟩
    case measure => simp [intOf]; omega
  ·have hin : i = k := by omega
   subst hin
   have HE := hid (show (l.map Ty.ex).take i = l.map Ty.ex from List.take_of_length_le (by rw [List.length_map, HK.out]; omega))
   rw [HE.out] at hE
   have hx0 := (exb hE.out).1
   obtain ⟨c0, c1, c2⟩ := hx0
   have hE0 : ExB wr w.heap.size ⟨0, 0, 0⟩ := (hX.out.block w.heap.size (by omega) (by omega)).trans HE1.out
   obtain ⟨⟨p0, p1, p2⟩, ⟨y0, y1, y2⟩, l0⟩ := exb hE0
   have HEZ := hid hE0
   clear hlt hE0
   go_wp2_with fail
   have hres := exB_set (u0 := .int .i64 ((wis (Ex.head 1) (l.map Ty.ex)).a : Int)) (u1 := .int .i64 ((wis (Ex.head 1) (l.map Ty.ex)).b : Int)) (u2 := .int .i64 ((wis (Ex.head 1) (l.map Ty.ex)).n : Int)) HEZ.out
   have hr3 := exb (e := wis (Ex.head 1) (l.map Ty.ex)) hres
   refine bodyPost_ret (v := .agg #[.int .i64 ((wis (Ex.head 1) (l.map Ty.ex)).a : Int), .int .i64 ((wis (Ex.head 1) (l.map Ty.ex)).b : Int), .int .i64 ((wis (Ex.head 1) (l.map Ty.ex)).n : Int)]) (by simp [results, Tryz.results82, go_sem, hr3.1.1, hr3.1.2.1, hr3.1.2.2]) rfl ?_
   refine ⟨rfl, HB1.out.trans ?_⟩
   have h1 : Below w.heap.size w1 wr := hX.out.to_below (by omega) (by omega)
   exact ((h1.setCell (Nat.le_refl _) _).setCell (Nat.le_refl _) _).setCell (Nat.le_refl _) _
theorem extT_nil (n f g : Nat) (v : Value) (hb : ByteArray) (hz : hb.size = 1)
    (he : ∀ args w, (callFunc f args).run Tryz.prog w = .ok (.enter f args) w) (mk : ∀ w, (method 338 n v "loop.example/pushvalue/impl.kids").run Tryz.prog w = .ok (f, v) w) (hkids : ∀ W, Calls Tryz.prog f #[v] W (KidsOk [] W))
    (hg : ∀ args w, (callFunc g args).run Tryz.prog w = .ok (.enter g args) w) (mh : ∀ w, (method 338 n v "loop.example/pushvalue/impl.head").run Tryz.prog w = .ok (g, v) w) (hhead : ∀ W, Calls Tryz.prog g #[v] W fun e w' => e = .returned (.string hb) ∧ Below W.heap.size W w') (w : World) :
    Calls Tryz.prog 82 #[.iface n v] w fun e w' => e = .returned (exV (Ex.atom 1)) ∧ Below w.heap.size w w' := by
 have HC := hid hkids
 have HH := hid hhead
 have HEH := hid (fun W => (show Calls Tryz.prog 79 #[.string hb] W fun e w' => e = .returned (.agg #[.int .i64 1, .int .i64 1, .int .i64 0]) ∧ Below W.heap.size W w' from by have h := exAtom_any hb W; rw [hz] at h; exact h))
 clear hkids hhead
 have HE0 := hid (show ExB (w.alloc (.cells #[.int .i64 0, .int .i64 0, .int .i64 0] 72)) w.heap.size ⟨0, 0, 0⟩ from hea w _ _ rfl)
 have hz00 : (w.alloc (.cells #[.int .i64 0, .int .i64 0, .int .i64 0] 72)).heap.size = w.heap.size + 1 := by simp
 have HB0 := hid (show Below w.heap.size w (w.alloc (.cells #[.int .i64 0, .int .i64 0, .int .i64 0] 72)) from (Below.refl _ _).alloc (Nat.le_refl _) _)
 go_enter Tryz.func82, Tryz.ntmps82
 go_wp2_with fail
 go_at_fn f
 refine (HC.out _).mono ?_
 rintro e w1 ⟨p, c, rfl, _, hb1⟩
 rw [List.length_nil]
 have HE1 := hid (exk HE0.out hb1 (by omega))
 have HB1 := hid (HB0.out.trans (hb1.mono (by omega)))
 have hz1 := hb1.size
 clear hb1
 go_wp2_with fail
 go_at_fn g
 refine (HH.out _).mono ?_
 rintro e w2 ⟨rfl, hb2⟩
 have HE2 := hid (exk HE1.out hb2 (by omega))
 have HB2 := hid (HB1.out.trans (hb2.mono (by omega)))
 have hz2 := hb2.size
 clear hb2
 go_wp2_with fail
 go_at_call 79
 refine (HEH.out _).mono ?_
 rintro e w3 ⟨rfl, hb3⟩
 have hE3 := exk HE2.out hb3 (by omega)
 have HE3 := hid hE3
 have HB3 := hid (HB2.out.trans (hb3.mono (by omega)))
 obtain ⟨⟨p0, p1, p2⟩, ⟨y0, y1, y2⟩, l0⟩ := exb hE3
 clear hb3 hE3
 go_wp2_with fail
 have hres := exB_set (u0 := .int .i64 1) (u1 := .int .i64 1) (u2 := .int .i64 0) HE3.out
 have hr3 := exb (e := ⟨1, 1, 0⟩) hres
 refine bodyPost_ret (v := .agg #[.int .i64 1, .int .i64 1, .int .i64 0]) (by
  have h0 := hr3.1.1
  have h1 := hr3.1.2.1
  have h2 := hr3.1.2.2
  simp at h0 h1 h2
  simp [results, Tryz.results82, go_sem, h0, h1, h2]) rfl ?_
 exact ⟨rfl, ((HB3.out.setCell (Nat.le_refl _) _).setCell (Nat.le_refl _) _).setCell (Nat.le_refl _) _⟩
theorem exa : ∀ (t : Ty), t.ex.ok → ∀ w, Calls Tryz.prog 82 #[t.val] w fun e w' => e = .returned (exV t.ex) ∧ Below w.heap.size w w'
 | .bit, _, w => extT_nil _ _ _ _ ⟨#[98]⟩ rfl (enters_of Tryz.func219 (by kernel_rfl) rfl) m_kids_bit kidsOk_bit (enters_of Tryz.func218 (by kernel_rfl) rfl) m_head_bit head_bit w
 | .pair x y, h, w => extT_go _ _ _ _ [x, y] ⟨#[42]⟩ 2 rfl (by decide) (by decide) rfl h (enters_of Tryz.func199 (by kernel_rfl) rfl) (m_kids_pair x.val y.val) (kidsOk_pair x y) (enters_of Tryz.func198 (by kernel_rfl) rfl) (m_head_pair x.val y.val) (head_pair x.val y.val) (fun i t ht => by match i, ht with | 0, ht => simp at ht; subst ht; exact exa x (exP_ok (i := 0) (l := [x.ex, y.ex]) h rfl) | 1, ht => simp at ht; subst ht; exact exa y (exP_ok (i := 1) (l := [x.ex, y.ex]) h rfl)) w
 | .thunk x, h, w => extT_go _ _ _ _ [x] ⟨#[117]⟩ 1 rfl (by decide) (by decide) rfl h (enters_of Tryz.func203 (by kernel_rfl) rfl) (m_kids_thunk x.val) (kidsOk_thunk x) (enters_of Tryz.func202 (by kernel_rfl) rfl) (m_head_thunk x.val) (head_thunk x.val) (fun i t ht => by match i, ht with | 0, ht => simp at ht; subst ht; exact exa x (exP_ok (i := 0) (l := [x.ex]) h rfl)) w
 | .ret x, h, w => extT_go _ _ _ _ [x] ⟨#[102]⟩ 1 rfl (by decide) (by decide) rfl h (enters_of Tryz.func207 (by kernel_rfl) rfl) (m_kids_ret x.val) (kidsOk_ret x) (enters_of Tryz.func206 (by kernel_rfl) rfl) (m_head_ret x.val) (head_ret x.val) (fun i t ht => by match i, ht with | 0, ht => simp at ht; subst ht; exact exa x (exP_ok (i := 0) (l := [x.ex]) h rfl)) w
 | .fn x y, h, w => extT_go _ _ _ _ [x, y] ⟨#[62]⟩ 2 rfl (by decide) (by decide) rfl h (enters_of Tryz.func211 (by kernel_rfl) rfl) (m_kids_fn x.val y.val) (kidsOk_fn x y) (enters_of Tryz.func210 (by kernel_rfl) rfl) (m_head_fn x.val y.val) (head_fn x.val y.val) (fun i t ht => by match i, ht with | 0, ht => simp at ht; subst ht; exact exa x (exP_ok (i := 0) (l := [x.ex, y.ex]) h rfl) | 1, ht => simp at ht; subst ht; exact exa y (exP_ok (i := 1) (l := [x.ex, y.ex]) h rfl)) w
 | .choice x y, h, w => extT_go _ _ _ _ [x, y] ⟨#[38]⟩ 2 rfl (by decide) (by decide) rfl h (enters_of Tryz.func215 (by kernel_rfl) rfl) (m_kids_choice x.val y.val) (kidsOk_choice x y) (enters_of Tryz.func214 (by kernel_rfl) rfl) (m_head_choice x.val y.val) (head_choice x.val y.val) (fun i t ht => by match i, ht with | 0, ht => simp at ht; subst ht; exact exa x (exP_ok (i := 0) (l := [x.ex, y.ex]) h rfl) | 1, ht => simp at ht; subst ht; exact exa y (exP_ok (i := 1) (l := [x.ex, y.ex]) h rfl)) w
theorem ty_exle : ∀ t : Ty, t.ex.a = t.atoms ∧ t.ex.b ≤ 8 * t.atoms ∧ t.ex.n ≤ t.atoms
 | .bit => ⟨rfl, by decide, by decide⟩
 | .pair a c => by
  obtain ⟨h1, h2, h3⟩ := ty_exle a
  obtain ⟨k1, k2, k3⟩ := ty_exle c
  have e1 : (Ty.pair a c).ex = ⟨1 + a.ex.a + c.ex.a, 2 + 1 + 1 + a.ex.b + 1 + c.ex.b, max (max 1 (1 + a.ex.n)) (1 + c.ex.n)⟩ := rfl
  rw [e1, Ty.atoms]
  refine ⟨?_, ?_, ?_⟩ <;> simp only <;> omega
 | .thunk c => by
  obtain ⟨k1, k2, k3⟩ := ty_exle c
  have e1 : (Ty.thunk c).ex = ⟨1 + c.ex.a, 2 + 1 + 1 + c.ex.b, max 1 (1 + c.ex.n)⟩ := rfl
  rw [e1, Ty.atoms]
  refine ⟨?_, ?_, ?_⟩ <;> simp only <;> omega
 | .ret c => by
  obtain ⟨k1, k2, k3⟩ := ty_exle c
  have e1 : (Ty.ret c).ex = ⟨1 + c.ex.a, 2 + 1 + 1 + c.ex.b, max 1 (1 + c.ex.n)⟩ := rfl
  rw [e1, Ty.atoms]
  refine ⟨?_, ?_, ?_⟩ <;> simp only <;> omega
 | .fn a c => by
  obtain ⟨h1, h2, h3⟩ := ty_exle a
  obtain ⟨k1, k2, k3⟩ := ty_exle c
  have e1 : (Ty.fn a c).ex = ⟨1 + a.ex.a + c.ex.a, 2 + 1 + 1 + a.ex.b + 1 + c.ex.b, max (max 1 (1 + a.ex.n)) (1 + c.ex.n)⟩ := rfl
  rw [e1, Ty.atoms]
  refine ⟨?_, ?_, ?_⟩ <;> simp only <;> omega
 | .choice a c => by
  obtain ⟨h1, h2, h3⟩ := ty_exle a
  obtain ⟨k1, k2, k3⟩ := ty_exle c
  have e1 : (Ty.choice a c).ex = ⟨1 + a.ex.a + c.ex.a, 2 + 1 + 1 + a.ex.b + 1 + c.ex.b, max (max 1 (1 + a.ex.n)) (1 + c.ex.n)⟩ := rfl
  rw [e1, Ty.atoms]
  refine ⟨?_, ?_, ?_⟩ <;> simp only <;> omega
theorem exTy_any (t : Ty) (h : t.atoms ≤ 400000000) (w : World) : Calls Tryz.prog 82 #[t.val] w fun e w' => (∃ b n : Int, e = .returned (.agg #[.int .i64 (t.atoms : Int), .int .i64 b, .int .i64 n])) ∧ Below w.heap.size w w' := by
 obtain ⟨h1, h2, h3⟩ := ty_exle t
 refine (exa t ⟨by omega, by omega, by omega⟩ w).mono ?_
 rintro e w' ⟨rfl, hb⟩
 exact ⟨⟨_, _, by rw [← h1]; rfl⟩, hb⟩
theorem exFld0 (a b n : Int) (w : World) : (Instr.field 72 (.agg #[.int .i64 a, .int .i64 b, .int .i64 n]) 0).run Tryz.prog w = .ok (.int .i64 a) w := by kernel_rfl
end Go.Proofs.YtfogjomebcponaaGreatDoor
