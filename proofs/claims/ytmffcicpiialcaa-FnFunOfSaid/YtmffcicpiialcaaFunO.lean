/- The program's function of a list: funOf. -/
import Derived.Test.YtmffcicpiialcaaBackI
import Derived.Sort.QuietIn
namespace Go.Proofs.Ytmffcicpiialcaa
open Go.RowKit Go.Shelf
attribute [local go_sem] Oper.semAt_some

theorem frozen_below8 {C : Nat} {A B : World} (h : Below C A B) {p : Addr} (hb : p.block < C) : B.frozen? p = A.frozen? p := by
  unfold World.frozen?; rw [h.block _ hb]
theorem cell_new_8 (w : World) (v : Value) (t : TypeId) : (w.alloc (.cells #[v] t)).cell? ⟨w.heap.size, 0, none⟩ = some v ∧ (w.alloc (.cells #[v] t)).frozen? ⟨w.heap.size, 0, none⟩ = false := by
  have h := heap_alloc_new w (.cells #[v] t)
  constructor
  · unfold World.cell?; rw [show (⟨w.heap.size, 0, none⟩ : Addr).block = w.heap.size from rfl, h]; rfl
  · unfold World.frozen?; rw [show (⟨w.heap.size, 0, none⟩ : Addr).block = w.heap.size from rfl, h]; rfl

/-- The number so far, as the program counts it. -/
def foldB (y : Int) (q : List (Nat × Int)) : Int := q.foldl (fun k x => wrap64 (wrap64 (k * y) + x.2)) 0
theorem foldB_snoc (y : Int) (q : List (Nat × Int)) (x : Nat × Int) : foldB y (q ++ [x]) = wrap64 (wrap64 (foldB y q * y) + x.2) := by
  unfold foldB; rw [List.foldl_append]; rfl
theorem foldB_hor (y : Nat) (hy : 2 ≤ y) (hy5 : y ≤ 5000) : ∀ (zs : List Int) (q : List (Nat × Int)), y ^ zs.length ≤ 5000 → (∀ z ∈ zs, 0 ≤ z ∧ z < (y : Int)) → q.map Prod.snd = zs.reverse → foldB (y : Int) q = ((hor y (zs.map Int.toNat) : Nat) : Int)
  | [], q, _, _, h => by
    have : q = [] := by simpa using h
    subst this; rfl
  | z :: zs, q, hpw, hok, h => by
    rw [List.reverse_cons] at h
    obtain ⟨q1, q2, rfl, h1, h2⟩ : ∃ q1 q2, q = q1 ++ q2 ∧ q1.map Prod.snd = zs.reverse ∧ q2.map Prod.snd = [z] := by
      obtain ⟨a, b, h1, h2, h3⟩ := List.map_eq_append_iff.1 h
      exact ⟨a, b, h1, h2, h3⟩
    obtain ⟨x, rfl⟩ : ∃ x, q2 = [x] := List.length_eq_one_iff.1 (by have := congrArg List.length h2; simpa using this)
    have hx : x.2 = z := by simpa using h2
    have hp : y ^ zs.length ≤ 5000 := Nat.le_trans (pow_le y _ _ (by omega) (by simp)) hpw
    have hok2 : ∀ z ∈ zs, 0 ≤ z ∧ z < (y : Int) := fun z hz => hok z (List.mem_cons_of_mem _ hz)
    have ih := foldB_hor y hy hy5 zs q1 hp hok2 h1
    have hlt := hor_lt y (by omega) (zs.map Int.toNat) (by
      intro c hc
      obtain ⟨u, hu, rfl⟩ := List.mem_map.1 hc
      have := hok2 u hu; omega)
    rw [List.length_map] at hlt
    have hz := hok z (List.mem_cons_self ..)
    rw [foldB_snoc, ih, hx, List.map_cons, hor]
    obtain ⟨H, hH⟩ : ∃ H, hor y (zs.map Int.toNat) = H := ⟨_, rfl⟩
    rw [hH] at hlt ⊢
    have m : y * H ≤ 5000 * 5000 := Nat.mul_le_mul hy5 (by omega)
    have e : (H : Int) * (y : Int) = ((y * H : Nat) : Int) := by rw [Nat.mul_comm]; simp
    rw [e]
    obtain ⟨P, hP⟩ : ∃ P, y * H = P := ⟨_, rfl⟩
    rw [hP] at m ⊢
    rw [IntWalk.wrap64_in (P : Int) (by omega), IntWalk.wrap64_in _ (by omega)]
    omega

set_option maxRecDepth 100000 in
set_option maxHeartbeats 4000000 in
theorem funOf_any (zs : List Int) (y : Nat) (p : Option Addr) (n c : Nat) (w : World) (hn : zs.length = n) (hnb : n ≤ 400000000) (hy : 2 ≤ y) (hy5 : y ≤ 5000) (hok : ∀ z ∈ zs, 0 ≤ z ∧ z < (y : Int)) (hpw : y ^ n ≤ 5000) (hv : Vals w p (ints zs)) (hp : ∀ b o, p = some ⟨b, o, none⟩ → b < w.heap.size) :
    Calls Try.prog 15 #[.slice p n c, .int .i64 (y : Int)] w fun e w' => e = .returned (.int .i64 ((hor y (zs.map Int.toNat) : Nat) : Int)) ∧ Below w.heap.size w w' := by
  refine (callsIn_wide (n := 5)).1 ?_
  refine callsIn_of_wp_marks Try.func15 rfl trivial ?_ rfl
  simp only [Try.ntmps15, List.size_toArray, List.length_cons, List.length_nil, Nat.reduceAdd, Nat.reduceSub, Array.replicate_succ, Array.replicate_zero, List.push_toArray, List.append_toArray, List.nil_append, List.cons_append]
  gi_wp2_with ((try refine ⟨trivial, ?_⟩); gi_at_call 27; refine (backward_in p n c _ _).mono ?_; rintro e w' ⟨rfl, rfl⟩)
  have hs0 := cell_new_8 w (.int .i64 (y : Int)) 3
  obtain ⟨w1, hw1⟩ : ∃ w1, w.alloc (.cells #[.int .i64 (y : Int)] 3) = w1 := ⟨_, rfl⟩
  have hs1 : w1.heap.size = w.heap.size + 1 := by rw [← hw1]; simp
  have hb1 : Below w.heap.size w w1 := by rw [← hw1]; exact (Below.refl _ w).alloc (Nat.le_refl _) _
  rw [hw1] at hs0 ⊢
  have hs2 := cell_new_8 w1 (.int .i64 0) 3
  obtain ⟨w2, hw2⟩ : ∃ w2, w1.alloc (.cells #[.int .i64 0] 3) = w2 := ⟨_, rfl⟩
  have hz2 : w2.heap.size = w.heap.size + 2 := by rw [← hw2]; simp [hs1]
  have hb2 : Below w1.heap.size w1 w2 := by rw [← hw2]; exact (Below.refl _ w1).alloc (Nat.le_refl _) _
  rw [hw2] at hs2 ⊢
  have hs3 := heap_alloc_new w2 (.cells #[.slice p n c] 23)
  obtain ⟨W1, hW1⟩ : ∃ W1, w2.alloc (.cells #[.slice p n c] 23) = W1 := ⟨_, rfl⟩
  have hz3 : W1.heap.size = w.heap.size + 3 := by rw [← hW1]; simp [hz2]
  have hb3 : Below w2.heap.size w2 W1 := by rw [← hW1]; exact (Below.refl _ w2).alloc (Nat.le_refl _) _
  rw [hW1] at hs3 ⊢
  rw [hz2] at hs3
  rw [hs1] at hs2
  have hb13 : Below w1.heap.size w1 W1 := hb2.trans (hb3.mono (by omega))
  have hBW : Below w.heap.size w W1 := hb1.trans (hb13.mono (by omega))
  have c0 : W1.cell? ⟨w.heap.size, 0, none⟩ = some (.int .i64 (y : Int)) := (hb13.cell (p := ⟨w.heap.size, 0, none⟩) (by show w.heap.size < w1.heap.size; omega)).trans hs0.1
  have c1 : W1.cell? ⟨w.heap.size + 1, 0, none⟩ = some (.int .i64 0) := (hb3.cell (p := ⟨w.heap.size + 1, 0, none⟩) (by show w.heap.size + 1 < w2.heap.size; omega)).trans hs2.1
  have f1 : W1.frozen? ⟨w.heap.size + 1, 0, none⟩ = false := (frozen_below8 hb3 (p := ⟨w.heap.size + 1, 0, none⟩) (by show w.heap.size + 1 < w2.heap.size; omega)).trans hs2.2
  have HIT := hid (backward_iter (g := w.heap.size + 2) (K := fun k => k < w.heap.size + 3 ∧ k ≠ w.heap.size + 1) (w := W1) 4 hn hnb (hv.kept (Kept.of_below hBW (Nat.le_refl _))) hs3 ⟨by omega, by omega⟩ (fun b o h => by have := hp b o h; exact ⟨by omega, by omega⟩))
  have HFH := hid (fun q h => foldB_hor y hy hy5 zs q (by rw [hn]; exact hpw) hok h)
  clear hn hok hpw hv hp hs0 hs2 hs3 hw1 hw2 hW1 hb1 hb2 hb3 hb13 hs1 hz2
  refine wpIn_rangeIterP (n := 5) (gf := 36) (lb := #[.pointer (some ⟨w.heap.size + 1 + 1, 0, none⟩)]) rfl (enters_of Try.func36 (by kernel_rfl) rfl) (encs := encB) (Kp := fun k => k < w.heap.size + 3 ∧ k ≠ w.heap.size + 1) (fun k h => by have := h.1; omega) HIT.out (by decide) (fun _ => rfl)
    (fun pre W => W.cell? ⟨w.heap.size, 0, none⟩ = some (.int .i64 (y : Int)) ∧ W.cell? ⟨w.heap.size + 1, 0, none⟩ = some (.int .i64 (foldB (y : Int) pre)) ∧ W.frozen? ⟨w.heap.size + 1, 0, none⟩ = false ∧ Below w.heap.size w W)
    (fun _ _ _ => False)
    (fun s A B hs hb => ⟨(hb.cell (p := ⟨w.heap.size, 0, none⟩) (by show w.heap.size < W1.heap.size; omega)).trans hs.1, (hb.cell (p := ⟨w.heap.size + 1, 0, none⟩) (by show w.heap.size + 1 < W1.heap.size; omega)).trans hs.2.1, (frozen_below8 hb (p := ⟨w.heap.size + 1, 0, none⟩) (by show w.heap.size + 1 < W1.heap.size; omega)).trans hs.2.2.1, hs.2.2.2.trans (hb.mono (by omega))⟩)
    (fun _ _ _ _ hs _ => hs)
    ⟨c0, c1, f1, hBW⟩
    (fun x => { tmps := #[.slice p n c, .int .i64 (y : Int), undef, .pointer (some ⟨w.heap.size, 0, none⟩), .int .i64 0, .pointer (some ⟨w.heap.size + 1, 0, none⟩), undef, .int .i64 x.2, .slice p n c, .func (.func 36) #[] #[.pointer (some ⟨w.heap.size + 1 + 1, 0, none⟩)], .int .i64 (x.1 : Int), .int .i64 x.2, undef, undef, undef, undef, undef, undef], defers := [] }) ?assign ?body ?done ?stop
  case assign =>
    intro l x W K hK
    simp only [encB]
    gi_wp2
    exact hK
  case body =>
    rintro l pre x W ⟨h0, h1, hf, hB⟩
    have hA : ∀ v, ApartP (fun k => k < w.heap.size + 3 ∧ k ≠ w.heap.size + 1) (W1.heap.size + 2) W (W.setCell ⟨w.heap.size + 1, 0, none⟩ v) := fun v => ApartP.setCell W _ v (by rintro ⟨_, h⟩; exact h rfl) (by show w.heap.size + 1 < W1.heap.size + 2; omega)
    gi_wp2
    refine ⟨KeepsOthers.setCell _ _ _, hA _, ?_, ?_, ?_, ?_⟩
    · exact (World.cell?_of_block (w := W) (a := ⟨w.heap.size, 0, none⟩) (Below.heap_setCell W ⟨w.heap.size + 1, 0, none⟩ _ w.heap.size (by show w.heap.size ≠ w.heap.size + 1; omega))).trans h0
    · rw [foldB_snoc]; exact World.cell?_setCell_same' _ _ _ (by rw [h1]; rfl)
    · rw [World.frozen?_setCell]; exact hf
    · exact hB.setCell (p := ⟨w.heap.size + 1, 0, none⟩) (by show w.heap.size ≤ w.heap.size + 1; omega) _
  case done =>
    rintro D ys W hD hS ⟨h0, h1, hf, hB⟩ hK
    have HF := hid (HFH.out ys hS)
    clear hS
    gi_wp2
    refine ⟨by simp, .inl ⟨_, _, rfl, run_takeDeferred (show W.heap[D]? = _ from hK), ?_⟩⟩
    exact ⟨_, results_tmp rfl _ _ _, by rw [HF.out]; rfl, hB.trans (belowK_b (w := w) (Nat.le_refl _) _ D _ _ (by omega) (show W.heap[D]? = _ from hK) rfl rfl)⟩
  case stop =>
    rintro D c pre W _ _ h _
    exact h.elim
end Go.Proofs.Ytmffcicpiialcaa
