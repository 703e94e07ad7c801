/- Merged: FunO, LawJ1, LwS. -/
import Derived.Sort.QuietIn
import Derived.Test.YtknjpdbdchnpeaaFMSBackI
import Derived.Test.YtknjpdbdchnpeaaFM18
namespace Go.Proofs.Ytknjpdbdchnpeaa
open Go.RowKit Go.Shelf
attribute [local go_sem] Oper.semAt_some

theorem frozen_below8 {C : Nat} {A B : World} (h : Below C A B) {p : Addr} (hb : p.block < C) : B.frozen? p = A.frozen? p := by
  unfold World.frozen?; rw [h.block _ hb]
theorem cell_new_8 (w : World) (v : Value) (t : TypeId) : (w.alloc (.cells #[v] t)).cell? ⟨w.heap.size, 0, none⟩ = some v ∧ (w.alloc (.cells #[v] t)).frozen? ⟨w.heap.size, 0, none⟩ = false := by
  have h := heap_alloc_new w (.cells #[v] t)
  constructor
  · unfold World.cell?; rw [show (⟨w.heap.size, 0, none⟩ : Addr).block = w.heap.size from rfl, h]; rfl
  · unfold World.frozen?; rw [show (⟨w.heap.size, 0, none⟩ : Addr).block = w.heap.size from rfl, h]; rfl

/-- The number so far, as the program counts it. -/
def foldB (y : Int) (q : List (Nat × Int)) : Int := q.foldl (fun k x => wrap64 (wrap64 (k * y) + x.2)) 0
theorem foldB_snoc (y : Int) (q : List (Nat × Int)) (x : Nat × Int) : foldB y (q ++ [x]) = wrap64 (wrap64 (foldB y q * y) + x.2) := by
  unfold foldB; rw [List.foldl_append]; rfl
theorem foldB_hor (y : Nat) (hy : 2 ≤ y) (hy5 : y ≤ 5000) : ∀ (zs : List Int) (q : List (Nat × Int)), y ^ zs.length ≤ 5000 → (∀ z ∈ zs, 0 ≤ z ∧ z < (y : Int)) → q.map Prod.snd = zs.reverse → foldB (y : Int) q = ((hor y (zs.map Int.toNat) : Nat) : Int)
  | [], q, _, _, h => by
    have : q = [] := by simpa using h
    subst this; rfl
  | z :: zs, q, hpw, hok, h => by
    rw [List.reverse_cons] at h
    obtain ⟨q1, q2, rfl, h1, h2⟩ : ∃ q1 q2, q = q1 ++ q2 ∧ q1.map Prod.snd = zs.reverse ∧ q2.map Prod.snd = [z] := by
      obtain ⟨a, b, h1, h2, h3⟩ := List.map_eq_append_iff.1 h
      exact ⟨a, b, h1, h2, h3⟩
    obtain ⟨x, rfl⟩ : ∃ x, q2 = [x] := List.length_eq_one_iff.1 (by have := congrArg List.length h2; simpa using this)
    have hx : x.2 = z := by simpa using h2
    have hp : y ^ zs.length ≤ 5000 := Nat.le_trans (pow_le y _ _ (by omega) (by simp)) hpw
    have hok2 : ∀ z ∈ zs, 0 ≤ z ∧ z < (y : Int) := fun z hz => hok z (List.mem_cons_of_mem _ hz)
    have ih := foldB_hor y hy hy5 zs q1 hp hok2 h1
    have hlt := hor_lt y (by omega) (zs.map Int.toNat) (by
      intro c hc
      obtain ⟨u, hu, rfl⟩ := List.mem_map.1 hc
      have := hok2 u hu; omega)
    rw [List.length_map] at hlt
    have hz := hok z (List.mem_cons_self ..)
    rw [foldB_snoc, ih, hx, List.map_cons, hor]
    obtain ⟨H, hH⟩ : ∃ H, hor y (zs.map Int.toNat) = H := ⟨_, rfl⟩
    rw [hH] at hlt ⊢
    have m : y * H ≤ 5000 * 5000 := Nat.mul_le_mul hy5 (by omega)
    have e : (H : Int) * (y : Int) = ((y * H : Nat) : Int) := by rw [Nat.mul_comm]; simp
    rw [e]
    obtain ⟨P, hP⟩ : ∃ P, y * H = P := ⟨_, rfl⟩
    rw [hP] at m ⊢
    rw [IntWalk.wrap64_in (P : Int) (by omega), IntWalk.wrap64_in _ (by omega)]
    omega

set_option maxRecDepth 100000 in
set_option maxHeartbeats 4000000 in
theorem funOf_any (zs : List Int) (y : Nat) (p : Option Addr) (n c : Nat) (w : World) (hn : zs.length = n) (hnb : n ≤ 400000000) (hy : 2 ≤ y) (hy5 : y ≤ 5000) (hok : ∀ z ∈ zs, 0 ≤ z ∧ z < (y : Int)) (hpw : y ^ n ≤ 5000) (hv : Vals w p (ints zs)) (hp : ∀ b o, p = some ⟨b, o, none⟩ → b < w.heap.size) :
    Calls Try.prog 64 #[.slice p n c, .int .i64 (y : Int)] w fun e w' => e = .returned (.int .i64 ((hor y (zs.map Int.toNat) : Nat) : Int)) ∧ Below w.heap.size w w' := by
  refine (callsIn_wide (n := 5)).1 ?_
  refine callsIn_of_wp_marks Try.func64 rfl trivial ?_ rfl
  simp only [Try.ntmps64, List.size_toArray, List.length_cons, List.length_nil, Nat.reduceAdd, Nat.reduceSub, Array.replicate_succ, Array.replicate_zero, List.push_toArray, List.append_toArray, List.nil_append, List.cons_append]
  gi_wp2_with ((try refine ⟨trivial, ?_⟩); gi_at_call 80; refine (backward_in p n c _ _).mono ?_; rintro e w' ⟨rfl, rfl⟩)
  have hs0 := cell_new_8 w (.int .i64 (y : Int)) 3
  obtain ⟨w1, hw1⟩ : ∃ w1, w.alloc (.cells #[.int .i64 (y : Int)] 3) = w1 := ⟨_, rfl⟩
  have hs1 : w1.heap.size = w.heap.size + 1 := by rw [← hw1]; simp
  have hb1 : Below w.heap.size w w1 := by rw [← hw1]; exact (Below.refl _ w).alloc (Nat.le_refl _) _
  rw [hw1] at hs0 ⊢
  have hs2 := cell_new_8 w1 (.int .i64 0) 3
  obtain ⟨w2, hw2⟩ : ∃ w2, w1.alloc (.cells #[.int .i64 0] 3) = w2 := ⟨_, rfl⟩
  have hz2 : w2.heap.size = w.heap.size + 2 := by rw [← hw2]; simp [hs1]
  have hb2 : Below w1.heap.size w1 w2 := by rw [← hw2]; exact (Below.refl _ w1).alloc (Nat.le_refl _) _
  rw [hw2] at hs2 ⊢
  have hs3 := heap_alloc_new w2 (.cells #[.slice p n c] 44)
  obtain ⟨W1, hW1⟩ : ∃ W1, w2.alloc (.cells #[.slice p n c] 44) = W1 := ⟨_, rfl⟩
  have hz3 : W1.heap.size = w.heap.size + 3 := by rw [← hW1]; simp [hz2]
  have hb3 : Below w2.heap.size w2 W1 := by rw [← hW1]; exact (Below.refl _ w2).alloc (Nat.le_refl _) _
  rw [hW1] at hs3 ⊢
  rw [hz2] at hs3
  rw [hs1] at hs2
  have hb13 : Below w1.heap.size w1 W1 := hb2.trans (hb3.mono (by omega))
  have hBW : Below w.heap.size w W1 := hb1.trans (hb13.mono (by omega))
  have c0 : W1.cell? ⟨w.heap.size, 0, none⟩ = some (.int .i64 (y : Int)) := (hb13.cell (p := ⟨w.heap.size, 0, none⟩) (by show w.heap.size < w1.heap.size; omega)).trans hs0.1
  have c1 : W1.cell? ⟨w.heap.size + 1, 0, none⟩ = some (.int .i64 0) := (hb3.cell (p := ⟨w.heap.size + 1, 0, none⟩) (by show w.heap.size + 1 < w2.heap.size; omega)).trans hs2.1
  have f1 : W1.frozen? ⟨w.heap.size + 1, 0, none⟩ = false := (frozen_below8 hb3 (p := ⟨w.heap.size + 1, 0, none⟩) (by show w.heap.size + 1 < w2.heap.size; omega)).trans hs2.2
  have HIT := hid (backward_iter (g := w.heap.size + 2) (K := fun k => k < w.heap.size + 3 ∧ k ≠ w.heap.size + 1) (w := W1) 4 hn hnb (hv.kept (Kept.of_below hBW (Nat.le_refl _))) hs3 ⟨by omega, by omega⟩ (fun b o h => by have := hp b o h; exact ⟨by omega, by omega⟩))
  have HFH := hid (fun q h => foldB_hor y hy hy5 zs q (by rw [hn]; exact hpw) hok h)
  clear hn hok hpw hv hp hs0 hs2 hs3 hw1 hw2 hW1 hb1 hb2 hb3 hb13 hs1 hz2
  refine wpIn_rangeIterP (n := 5) (gf := 91) (lb := #[.pointer (some ⟨w.heap.size + 1 + 1, 0, none⟩)]) rfl (enters_of Try.func91 (by kernel_rfl) rfl) (encs := encB) (Kp := fun k => k < w.heap.size + 3 ∧ k ≠ w.heap.size + 1) (fun k h => by have := h.1; omega) HIT.out (by decide) (fun _ => rfl)
    (fun pre W => W.cell? ⟨w.heap.size, 0, none⟩ = some (.int .i64 (y : Int)) ∧ W.cell? ⟨w.heap.size + 1, 0, none⟩ = some (.int .i64 (foldB (y : Int) pre)) ∧ W.frozen? ⟨w.heap.size + 1, 0, none⟩ = false ∧ Below w.heap.size w W)
    (fun _ _ _ => False)
    (fun s A B hs hb => ⟨(hb.cell (p := ⟨w.heap.size, 0, none⟩) (by show w.heap.size < W1.heap.size; omega)).trans hs.1, (hb.cell (p := ⟨w.heap.size + 1, 0, none⟩) (by show w.heap.size + 1 < W1.heap.size; omega)).trans hs.2.1, (frozen_below8 hb (p := ⟨w.heap.size + 1, 0, none⟩) (by show w.heap.size + 1 < W1.heap.size; omega)).trans hs.2.2.1, hs.2.2.2.trans (hb.mono (by omega))⟩)
    (fun _ _ _ _ hs _ => hs)
    ⟨c0, c1, f1, hBW⟩
    (fun x => { tmps := #[.slice p n c, .int .i64 (y : Int), undef, .pointer (some ⟨w.heap.size, 0, none⟩), .int .i64 0, .pointer (some ⟨w.heap.size + 1, 0, none⟩), undef, .int .i64 x.2, .slice p n c, .func (.func 91) #[] #[.pointer (some ⟨w.heap.size + 1 + 1, 0, none⟩)], .int .i64 (x.1 : Int), .int .i64 x.2, undef, undef, undef, undef, undef, undef], defers := [] }) ?assign ?body ?done ?stop
  case assign =>
    intro l x W K hK
    simp only [encB]
    gi_wp2
    exact hK
  case body =>
    rintro l pre x W ⟨h0, h1, hf, hB⟩
    have hA : ∀ v, ApartP (fun k => k < w.heap.size + 3 ∧ k ≠ w.heap.size + 1) (W1.heap.size + 2) W (W.setCell ⟨w.heap.size + 1, 0, none⟩ v) := fun v => ApartP.setCell W _ v (by rintro ⟨_, h⟩; exact h rfl) (by show w.heap.size + 1 < W1.heap.size + 2; omega)
    gi_wp2
    refine ⟨KeepsOthers.setCell _ _ _, hA _, ?_, ?_, ?_, ?_⟩
    · exact (World.cell?_of_block (w := W) (a := ⟨w.heap.size, 0, none⟩) (Below.heap_setCell W ⟨w.heap.size + 1, 0, none⟩ _ w.heap.size (by show w.heap.size ≠ w.heap.size + 1; omega))).trans h0
    · rw [foldB_snoc]; exact World.cell?_setCell_same' _ _ _ (by rw [h1]; rfl)
    · rw [World.frozen?_setCell]; exact hf
    · exact hB.setCell (p := ⟨w.heap.size + 1, 0, none⟩) (by show w.heap.size ≤ w.heap.size + 1; omega) _
  case done =>
    rintro D ys W hD hS ⟨h0, h1, hf, hB⟩ hK
    have HF := hid (HFH.out ys hS)
    clear hS
    gi_wp2
    refine ⟨by simp, .inl ⟨_, _, rfl, run_takeDeferred (show W.heap[D]? = _ from hK), ?_⟩⟩
    exact ⟨_, results_tmp rfl _ _ _, by rw [HF.out]; rfl, hB.trans (belowK_b (w := w) (Nat.le_refl _) _ D _ _ (by omega) (show W.heap[D]? = _ from hK) rfl rfl)⟩
  case stop =>
    rintro D c pre W _ _ h _
    exact h.elim
end Go.Proofs.Ytknjpdbdchnpeaa

namespace Go.Proofs.Ytknjpdbdchnpeaa
open Go.RowKit

/-- What FunOf tells, of the counts around. -/
def foX (o : Option (List Nat)) (zs : List Int) : Option Nat := match o with
  | some [x, y] => if zs.length = x ∧ ∀ z ∈ zs, 0 ≤ z ∧ z < (y : Int) then some (hor y (zs.map Int.toNat)) else none
  | _ => none
theorem foX_no {x y i : Nat} {zs : List Int} {z : Int} (h : zs[i]? = some z) (hz : ¬ (0 ≤ z ∧ z < (y : Int))) : foX (some [x, y]) zs = none := by
  rw [foX, if_neg]; exact fun hh => hz (hh.2 z (List.mem_of_getElem? h))
theorem foX_yes {x y : Nat} {zs : List Int} (hl : zs.length = x) (h : ∀ z ∈ zs, 0 ≤ z ∧ z < (y : Int)) : foX (some [x, y]) zs = some (hor y (zs.map Int.toNat)) := by
  rw [foX, if_pos ⟨hl, h⟩]
theorem foX_len {x y : Nat} {zs : List Int} (hl : zs.length ≠ x) : foX (some [x, y]) zs = none := by
  rw [foX, if_neg]; exact fun hh => hl hh.1
theorem fn_bound {x y : Ty} {n a b : Nat} (h : (Ty.fn x y).cnt = some n) (hx : x.cnt = some a) (hy : y.cnt = some b) : b ^ a ≤ 5000 := by
  rw [Ty.cnt, hx, hy] at h
  simp only at h
  exact (capped_some h).2
theorem ok_snoc {zs : List Int} {i y : Nat} {z : Int} (h : ∀ z ∈ zs.take i, 0 ≤ z ∧ z < (y : Int)) (hz : zs[i]? = some z) (hok : 0 ≤ z ∧ z < (y : Int)) : ∀ z ∈ zs.take (i + 1), 0 ≤ z ∧ z < (y : Int) := by
  rw [List.take_add_one, hz]
  intro u hu
  rcases List.mem_append.1 hu with h1 | h1
  · exact h u h1
  · simp at h1; subst h1; exact hok
theorem hor_take {zs : List Int} {i y zn : Nat} (hz : zs[i]? = some (zn : Int)) (hi : i < zs.length) : hor y ((zs.take (i + 1)).map Int.toNat) = hor y ((zs.take i).map Int.toNat) + y ^ i * zn := by
  rw [List.take_add_one, hz, List.map_append, hor_append, List.length_map, List.length_take_of_le (by omega)]
  simp [hor]
theorem hor_take_lt {zs : List Int} {i y : Nat} (hy : 1 ≤ y) (h : ∀ z ∈ zs.take i, 0 ≤ z ∧ z < (y : Int)) (hi : i ≤ zs.length) : hor y ((zs.take i).map Int.toNat) < y ^ i := by
  have := hor_lt y hy ((zs.take i).map Int.toNat) (by
    intro c hc
    obtain ⟨z, hz, rfl⟩ := List.mem_map.1 hc
    have := h z hz; omega)
  rwa [List.length_map, List.length_take_of_le hi] at this
theorem hor_drop {zs : List Int} {i y zn : Nat} (hz : zs[i]? = some (zn : Int)) : hor y ((zs.drop i).map Int.toNat) = zn + y * hor y ((zs.drop (i + 1)).map Int.toNat) := by
  have hi : i < zs.length := (List.getElem?_eq_some_iff.1 hz).1
  rw [List.drop_eq_getElem_cons hi]
  have : zs[i] = (zn : Int) := by rw [List.getElem?_eq_getElem hi] at hz; simpa using hz
  rw [this]; rfl
theorem hor_drop_lt {zs : List Int} {i y : Nat} (hy : 1 ≤ y) (h : ∀ z ∈ zs, 0 ≤ z ∧ z < (y : Int)) : hor y ((zs.drop i).map Int.toNat) < y ^ zs.length := by
  have := hor_lt y hy ((zs.drop i).map Int.toNat) (by
    intro c hc
    obtain ⟨z, hz, rfl⟩ := List.mem_map.1 hc
    have := h z (List.mem_of_mem_drop hz); omega)
  rw [List.length_map, List.length_drop] at this
  exact Nat.lt_of_lt_of_le this (pow_le y _ _ hy (by omega))

set_option maxRecDepth 100000 in
set_option maxHeartbeats 2000000 in
theorem implFunOf_any (s : ByteArray) (hs : s.size ≤ 400000000) (zs : List Int) (p : Option Addr) (n c : Nat) (w : World) (hn : zs.length = n) (hnb : n ≤ 400000000) (hv : Vals w p (ints zs)) :
    Calls Try.prog 38 #[.string s, .slice p n c] w (FaPost (foX (around (readTy s) 62 62 0) zs) w) := by
  have HC := hid (fun W => around_any s ⟨#[62]⟩ hs 62 62 (by decide) (by decide) 0 W heads_fn)
  have HVL := hid hv
  have HN := hid hn
  clear hv hn
  rcases elem_cases s 62 62 0 with ⟨h1, h2⟩ | ⟨ty, t, xs, N, h1, h2, hty, hkc, hh, hN, hk0, hkn, hn5, hw⟩
  · have H1 := hid h1
    have HX := hid (show foX (around (readTy s) 62 62 0) zs = none by rw [h1]; rfl)
    clear h1 h2
    go_enter Try.func38, Try.ntmps38
    go_wp2_with (go_at_call 54; refine (HC.out _).mono ?_; rintro e w1 hp; rw [H1.out] at hp; obtain ⟨rfl, hb1⟩ := hp.none; clear hp)
    go_ret2
    rw [HX.out]
    exact ⟨rfl, hb1⟩
  · obtain ⟨x, y, rfl, hxy⟩ := fn_kids hh
    rw [hxy] at hkc
    obtain ⟨cx, cy, rfl, hcx, hcy, hx2, hx5, hy2, hy5⟩ := kc_two hkc
    have H1 := hid h1
    have hpw := fn_bound hN hcx hcy
    by_cases hnx : n = cx
    · subst hnx
      have HNO := hid (fun (i : Nat) (z : Int) (h : zs[i]? = some z) (hz : ¬ (0 ≤ z ∧ z < (cy : Int))) => (show foX (around (readTy s) 62 62 0) zs = none by rw [h1]; exact foX_no h hz))
      have HYES := hid (fun (h : ∀ z ∈ zs, 0 ≤ z ∧ z < (cy : Int)) => (show foX (around (readTy s) 62 62 0) zs = some (hor cy (zs.map Int.toNat)) by rw [h1]; exact foX_yes HN.out h))
      have HPW := hid (fun i (hi : i ≤ n) => Nat.le_trans (pow_le cy i n (by omega) hi) hpw)
      have hnn : ((n : Int) != (n : Int)) = false := by simp
      clear h1 h2 hty hkc hh hN hw hxy hcx hcy hpw
      go_enter Try.func38, Try.ntmps38
      go_wp2_with (go_at_call 54; refine (HC.out _).mono ?_; rintro e w1 hp; rw [H1.out] at hp; obtain ⟨q, c3, rfl, hv, hb1⟩ := hp.some; clear hp; obtain ⟨g, rfl, hc1⟩ := hv 0 _ rfl; obtain ⟨g2, hg2, hc2⟩ := hv 1 _ rfl; obtain rfl : g = g2 := (by simpa using hg2); clear hv hg2)
      have HV1 := hid (HVL.out.kept (Kept.of_below hb1 (Nat.le_refl _)))
      have HFO := hid (fun (h : ∀ z ∈ zs, 0 ≤ z ∧ z < (cy : Int)) => funOf_any zs cy p n c w1 HN.out hnb hy2 hy5 h (HPW.out n (Nat.le_refl _)) HV1.out (fun b o hb => by
        obtain ⟨z, hz⟩ : ∃ z, zs[0]? = some z := ⟨_, List.getElem?_eq_getElem (by rw [HN.out]; omega)⟩
        obtain ⟨b2, o2, hb2, hc⟩ := HV1.out 0 _ (ints_get hz)
        rw [hb] at hb2
        have e : b = b2 := by simpa using (Option.some.inj hb2 ▸ rfl : (⟨b, o, none⟩ : Addr).block = b2)
        rw [e]; exact World.block_lt_of_cell? w1 _ hc))
      go_loop [27] (fun r => ∃ i : Nat, i ≤ n ∧ r = .int .i64 (i : Int) ∧ Hid (∀ z ∈ zs.take i, 0 ≤ z ∧ z < (cy : Int))) (fun r => n - (intOf r).toNat)
      case atStart => exact ⟨0, Nat.zero_le _, rfl, by intro z hz; simp at hz⟩
      case round =>
        obtain ⟨i, hi, rfl, hok⟩ := hrel
        by_cases hlt : i < n
        · obtain ⟨z, hz⟩ : ∃ z, zs[i]? = some z := ⟨_, List.getElem?_eq_getElem (by rw [HN.out]; exact hlt)⟩
          obtain ⟨b, o, rfl, hcz⟩ := HV1.out i _ (ints_get hz)
          have HI := hid (fun W => isElement_any z (cy : Int) W)
          by_cases hzz : 0 ≤ z ∧ z < (cy : Int)
          · rw [decide_eq_true hzz] at HI
            have HOK := hid (ok_snoc hok.out hz hzz)
            clear hz hzz
            go_wp2_with (go_at_call 61; refine (HI.out _).mono ?_; rintro e w2 ⟨rfl, rfl⟩)
            go_round
            case rel => exact ⟨i + 1, by omega, by go_num, HOK.out⟩
            case measure => simp [intOf]; omega
          · rw [decide_eq_false hzz] at HI
            have HX := hid (HNO.out i z hz hzz)
            clear hz hzz
            go_wp2_with (go_at_call 61; refine (HI.out _).mono ?_; rintro e w2 ⟨rfl, rfl⟩)
            go_ret2
            rw [HX.out]
            exact ⟨rfl, hb1⟩
        · have hin : i = n := by omega
          have HIN := hid hin
          clear hin
          have ht : zs.take i = zs := List.take_of_length_le (by rw [HN.out, HIN.out]; exact Nat.le_refl _)
          have h2 := hok.out
          rw [ht] at h2
          have H2 := hid h2
          clear h2 ht
          go_wp2_with (go_at_call 64; refine (HFO.out H2.out).mono ?_; rintro e w2 ⟨rfl, hb2⟩)
          go_ret2
          rw [HYES.out H2.out]
          exact ⟨rfl, hb1.trans (hb2.mono hb1.size)⟩
    · have HX := hid (show foX (around (readTy s) 62 62 0) zs = none by rw [h1]; exact foX_len (by rw [HN.out]; exact hnx))
      have hnn : ((n : Int) != (cx : Int)) = true := bne_iff_ne.2 (by omega)
      clear h1 h2 hty hkc hh hN hw hxy hcx hcy hpw hnx
      go_enter Try.func38, Try.ntmps38
      go_wp2_with (go_at_call 54; refine (HC.out _).mono ?_; rintro e w1 hp; rw [H1.out] at hp; obtain ⟨q, c3, rfl, hv, hb1⟩ := hp.some; clear hp; obtain ⟨g, rfl, hc1⟩ := hv 0 _ rfl; clear hv)
      go_ret2
      rw [HX.out]
      exact ⟨rfl, hb1⟩

end Go.Proofs.Ytknjpdbdchnpeaa

namespace Go.Proofs.Ytknjpdbdchnpeaa
open Go.RowKit

theorem hor_digits (k n : Nat) : ∀ m : Nat, hor n ((List.range m).map fun i => atN k n i) = k % n ^ m
  | 0 => by simp [hor, Nat.mod_one]
  | m + 1 => by
    rw [List.range_succ, List.map_append, hor_append, hor_digits k n m, List.length_map, List.length_range]
    simp only [List.map_cons, List.map_nil, hor, Nat.mul_zero, Nat.add_zero]
    rw [atN, Nat.pow_succ, Nat.mod_mul]
/-- The list of what a function answers. -/
def digs (k n m : Nat) : List Int := (List.range m).map fun i => ((atN k n i : Nat) : Int)
theorem digs_len (k n m : Nat) : (digs k n m).length = m := by simp [digs]
theorem digs_succ (k n m : Nat) : digs k n (m + 1) = digs k n m ++ [((atN k n m : Nat) : Int)] := by simp [digs, List.range_succ]
theorem digs_get {k n m i : Nat} (h : i < m) : (digs k n m)[i]? = some ((atN k n i : Nat) : Int) := by simp [digs, h]
theorem atN_lt {k n i : Nat} (h : 1 ≤ n) : atN k n i < n := Nat.mod_lt _ (by omega)
/-- What a function's element tells. -/
theorem fa_facts {s : ByteArray} {k : Int} {xs : List Nat} (h : around (readTy s) 62 62 k = some xs) :
    ∃ (x y : Ty) (cx cy kn : Nat), readTy s = some (.fn x y) ∧ x.cnt = some cx ∧ y.cnt = some cy ∧ xs = [cx, cy] ∧ 2 ≤ cx ∧ cx ≤ 5000 ∧ 2 ≤ cy ∧ cy ≤ 5000 ∧ k = (kn : Int) ∧ kn ≤ 5000 ∧
      foX (around (readTy s) 62 62 0) (digs kn cy cx) = some kn := by
  obtain ⟨ty, n, hr, hh, hkc, hn, hk0, hkn, hn5⟩ := ar_some h
  obtain ⟨x, y, rfl, hxy⟩ := fn_kids hh
  rw [hxy] at hkc
  obtain ⟨cx, cy, rfl, hcx, hcy, hx2, hx5, hy2, hy5⟩ := kc_two hkc
  have hnn : n = cy ^ cx := by rw [Ty.cnt, hcx, hcy] at hn; exact (capped_some hn).1
  obtain ⟨kn, rfl⟩ := Int.eq_ofNat_of_zero_le hk0
  have hlt : kn < cy ^ cx := by rw [← hnn]; omega
  have hcp : (0 : Int) < cntV (Ty.fn x y).cnt := by
    have h1 : cntV (Ty.fn x y).cnt = (n : Int) := by rw [hn]; rfl
    have h2 := (cnt_range _ n hn).1
    omega
  have ha0 : around (readTy s) 62 62 0 = some [cx, cy] := by
    rw [hr, around, if_pos ⟨Or.inl rfl, Int.le_refl _, hcp⟩, hxy, hkc]
  refine ⟨x, y, cx, cy, kn, hr, hcx, hcy, rfl, hx2, hx5, hy2, hy5, rfl, by omega, ?_⟩
  rw [ha0, foX_yes (digs_len kn cy cx) (by
    intro z hz
    obtain ⟨i, hi, rfl⟩ := List.mem_map.1 hz
    have := atN_lt (k := kn) (i := i) (show 1 ≤ cy by omega)
    omega)]
  have e : (digs kn cy cx).map Int.toNat = (List.range cx).map fun i => atN kn cy i := by
    rw [digs, List.map_map]; rfl
  rw [e, hor_digits, Nat.mod_eq_of_lt hlt]
end Go.Proofs.Ytknjpdbdchnpeaa
