/- The names that stand free in a source expression, by the model: all expressions. -/
import Derived.Test.YtinlibkkbjfmeaaDoorSxF
namespace Go.Proofs.YtinlibkkbjfmeaaDoor
open Go.RowKit

theorem Free7.mono {w0 : World} {wt wt2 : Nat} {fr : List ByteArray → List ByteArray} {h : Hd} (H : Free7 w0 wt fr h) (hw : wt ≤ wt2) : Free7 w0 wt2 fr h :=
  fun bd L bp lp bn bc ln lc base w a1 a2 a3 a4 a5 a6 a7 a8 a9 => H bd L bp lp bn bc ln lc base w a1 a2 a3 a4 a5 a6 a7 (by omega) (by omega)
theorem Free7.cast {w0 : World} {wt : Nat} {fr fr2 : List ByteArray → List ByteArray} {h : Hd} (H : Free7 w0 wt fr h) (he : ∀ bd, fr bd = fr2 bd) : Free7 w0 wt fr2 h := by
  have : fr = fr2 := funext he
  rw [← this]; exact H

set_option maxRecDepth 100000 in
set_option maxHeartbeats 1000000 in
theorem free7_fail {w0 : World} {hd : ByteArray} {b cap N : Nat} {A : Nat → Hd} (hN : N = 2) (e1 : (hd.toList == [108, 97, 109]) = false) (e2 : (hd.toList == [102, 97, 105, 108]) = true) (hh : (A 0).a = hd)
    (c0 : w0.cell? ⟨b, 0, none⟩ = some (.string (A 0).a)) : Free7 w0 1 (fun _ => []) ⟨ByteArray.empty, some ⟨b, 0, none⟩, N, cap⟩ := by
  intro bd L bp lp bn bc ln lc base w hk hw hb0 hbw hsv hap hown hbn hln
  show Calls _ _ _ _ (FreePost base (.slice lp ln lc) L w)
  have hll : L.length = ln := by have := hown.1; simpa using this
  have c1 := hk.cell c0
  rw [hh] at c1
  have c2 : ∀ o, (w.alloc o).cell? ⟨b, 0, none⟩ = some (.string hd) := fun o => (World.cell?_of_block (w := w) (heap_alloc_old w o (World.block_lt_of_cell? w _ c1))).trans c1
  have HO := hid (fun o => hown.alloc o)
  have HLL := hid hll
  subst hN
  clear hk hsv hap hown hll c0 hh
  go_enter Tryd.func16, Tryd.ntmps16
  go_wp2_with fail
  go_ret
  refine ⟨lp, lc, by rw [HLL.out]; rfl, by rw [HLL.out]; exact HO.out _, Below.grownBy ((Below.refl w.heap.size w).alloc (Nat.le_refl _) _) (Nat.le_refl _), Or.inl (by rw [HLL.out])⟩

/-- THE NAMES THAT STAND FREE, BY THE MODEL. -/
theorem l7Free_any {w0 : World} {S : Nat → Prop} (m : Sx) : ∀ {h : Hd}, TIn w0 S m.tree h → m.tree.write.length ≤ 12000 → Free7 w0 m.tree.wt m.free h := by
  induction m with
  | name a =>
    intro h ht hwl
    cases ht with
    | atom s hne hm => exact free7_atom w0 a hne (by have : a.size ≤ 12000 := Nat.le_trans (text_le (.atom a)) hwl; omega)
  | bit a =>
    intro h ht hwl
    cases ht with
    | atom s hne hm => exact free7_atom w0 a hne (by have : a.size ≤ 12000 := Nat.le_trans (text_le (.atom a)) hwl; omega)
  | lam x s e ihe =>
    intro h ht hwl
    simp only [Sx.tree] at hwl
    cases ht with
    | node ps b cap A hp hl hc hS hA hB hps =>
      have H := free7_lam (w0 := w0) (hd := hLam) (x := x) (b := b) (cap := cap) (A := A) ⟨hl, hc⟩ (by rw [hLam_l]; rfl) (hps 0 _ rfl).text (hps 1 _ rfl).text hA hB (ihe (hps 3 _ rfl) (Nat.le_trans (part_le (i := 3) rfl) hwl))
      exact (H.cast (fun bd => rfl)).mono (by simp [Sx.tree, Tree.wt, Tree.wts]; omega)
  | app d e ihd ihe =>
    intro h ht hwl
    simp only [Sx.tree] at hwl
    cases ht with
    | node ps b cap A hp hl hc hS hA hB hps =>
      have H := free7_go (w0 := w0) (hd := hApp) (b := b) (cap := cap) (n := 2) (N := 3) (A := A) (frs := [(d.tree.wt, d.free), (e.tree.wt, e.free)]) rfl rfl (by omega) (by rw [hApp_l]; rfl) (by rw [hApp_l]; rfl) (hps 0 _ rfl).text hA hB (fun i x hx => by
        match i, hx with
        | 0, hx => simp at hx; subst hx; exact ⟨ihd (hps 1 _ rfl) (Nat.le_trans (part_le (i := 1) rfl) hwl), free7_le d⟩
        | 1, hx => simp at hx; subst hx; exact ⟨ihe (hps 2 _ rfl) (Nat.le_trans (part_le (i := 2) rfl) hwl), free7_le e⟩
        | i + 2, hx => simp at hx)
      exact (H.cast (fun bd => by simp [frAll, Sx.free])).mono (by simp [wsum, Sx.tree, Tree.wt, Tree.wts]; try omega)
  | iff d e g ihd ihe ihg =>
    intro h ht hwl
    simp only [Sx.tree] at hwl
    cases ht with
    | node ps b cap A hp hl hc hS hA hB hps =>
      have H := free7_go (w0 := w0) (hd := hIf) (b := b) (cap := cap) (n := 3) (N := 4) (A := A) (frs := [(d.tree.wt, d.free), (e.tree.wt, e.free), (g.tree.wt, g.free)]) rfl rfl (by omega) (by rw [hIf_l]; rfl) (by rw [hIf_l]; rfl) (hps 0 _ rfl).text hA hB (fun i x hx => by
        match i, hx with
        | 0, hx => simp at hx; subst hx; exact ⟨ihd (hps 1 _ rfl) (Nat.le_trans (part_le (i := 1) rfl) hwl), free7_le d⟩
        | 1, hx => simp at hx; subst hx; exact ⟨ihe (hps 2 _ rfl) (Nat.le_trans (part_le (i := 2) rfl) hwl), free7_le e⟩
        | 2, hx => simp at hx; subst hx; exact ⟨ihg (hps 3 _ rfl) (Nat.le_trans (part_le (i := 3) rfl) hwl), free7_le g⟩
        | i + 3, hx => simp at hx)
      exact (H.cast (fun bd => by simp [frAll, Sx.free])).mono (by simp [wsum, Sx.tree, Tree.wt, Tree.wts]; try omega)
  | pair d e ihd ihe =>
    intro h ht hwl
    simp only [Sx.tree] at hwl
    cases ht with
    | node ps b cap A hp hl hc hS hA hB hps =>
      have H := free7_go (w0 := w0) (hd := hPair) (b := b) (cap := cap) (n := 2) (N := 3) (A := A) (frs := [(d.tree.wt, d.free), (e.tree.wt, e.free)]) rfl rfl (by omega) (by rw [hPair_l]; rfl) (by rw [hPair_l]; rfl) (hps 0 _ rfl).text hA hB (fun i x hx => by
        match i, hx with
        | 0, hx => simp at hx; subst hx; exact ⟨ihd (hps 1 _ rfl) (Nat.le_trans (part_le (i := 1) rfl) hwl), free7_le d⟩
        | 1, hx => simp at hx; subst hx; exact ⟨ihe (hps 2 _ rfl) (Nat.le_trans (part_le (i := 2) rfl) hwl), free7_le e⟩
        | i + 2, hx => simp at hx)
      exact (H.cast (fun bd => by simp [frAll, Sx.free])).mono (by simp [wsum, Sx.tree, Tree.wt, Tree.wts]; try omega)
  | fst e ihe =>
    intro h ht hwl
    simp only [Sx.tree] at hwl
    cases ht with
    | node ps b cap A hp hl hc hS hA hB hps =>
      have H := free7_go (w0 := w0) (hd := hFst) (b := b) (cap := cap) (n := 1) (N := 2) (A := A) (frs := [(e.tree.wt, e.free)]) rfl rfl (by omega) (by rw [hFst_l]; rfl) (by rw [hFst_l]; rfl) (hps 0 _ rfl).text hA hB (fun i x hx => by
        match i, hx with
        | 0, hx => simp at hx; subst hx; exact ⟨ihe (hps 1 _ rfl) (Nat.le_trans (part_le (i := 1) rfl) hwl), free7_le e⟩
        | i + 1, hx => simp at hx)
      exact (H.cast (fun bd => by simp [frAll, Sx.free])).mono (by simp [wsum, Sx.tree, Tree.wt, Tree.wts]; try omega)
  | snd e ihe =>
    intro h ht hwl
    simp only [Sx.tree] at hwl
    cases ht with
    | node ps b cap A hp hl hc hS hA hB hps =>
      have H := free7_go (w0 := w0) (hd := hSnd) (b := b) (cap := cap) (n := 1) (N := 2) (A := A) (frs := [(e.tree.wt, e.free)]) rfl rfl (by omega) (by rw [hSnd_l]; rfl) (by rw [hSnd_l]; rfl) (hps 0 _ rfl).text hA hB (fun i x hx => by
        match i, hx with
        | 0, hx => simp at hx; subst hx; exact ⟨ihe (hps 1 _ rfl) (Nat.le_trans (part_le (i := 1) rfl) hwl), free7_le e⟩
        | i + 1, hx => simp at hx)
      exact (H.cast (fun bd => by simp [frAll, Sx.free])).mono (by simp [wsum, Sx.tree, Tree.wt, Tree.wts]; try omega)
  | get =>
    intro h ht hwl
    simp only [Sx.tree] at hwl
    cases ht with
    | node ps b cap A hp hl hc hS hA hB hps =>
      have H := free7_go (w0 := w0) (hd := hGet) (b := b) (cap := cap) (n := 0) (N := 1) (A := A) (frs := []) rfl rfl (by omega) (by rw [hGet_l]; rfl) (by rw [hGet_l]; rfl) (hps 0 _ rfl).text hA hB (fun i x hx => by
        match i, hx with
        | i + 0, hx => simp at hx)
      exact (H.cast (fun bd => by simp [frAll, Sx.free])).mono (by simp [wsum, Sx.tree, Tree.wt, Tree.wts]; try omega)
  | put e ihe =>
    intro h ht hwl
    simp only [Sx.tree] at hwl
    cases ht with
    | node ps b cap A hp hl hc hS hA hB hps =>
      have H := free7_go (w0 := w0) (hd := hPut) (b := b) (cap := cap) (n := 1) (N := 2) (A := A) (frs := [(e.tree.wt, e.free)]) rfl rfl (by omega) (by rw [hPut_l]; rfl) (by rw [hPut_l]; rfl) (hps 0 _ rfl).text hA hB (fun i x hx => by
        match i, hx with
        | 0, hx => simp at hx; subst hx; exact ⟨ihe (hps 1 _ rfl) (Nat.le_trans (part_le (i := 1) rfl) hwl), free7_le e⟩
        | i + 1, hx => simp at hx)
      exact (H.cast (fun bd => by simp [frAll, Sx.free])).mono (by simp [wsum, Sx.tree, Tree.wt, Tree.wts]; try omega)
  | fail s =>
    intro h ht hwl
    cases ht with
    | node ps b cap A hp hl hc hS hA hB hps =>
      have H := free7_fail (w0 := w0) (hd := hFail) (b := b) (cap := cap) (A := A) rfl (by rw [hFail_l]; rfl) (by rw [hFail_l]; rfl) (hps 0 _ rfl).text (by simpa using hA 0 (by simp))
      exact (H.cast (fun bd => rfl)).mono (by simp [Sx.tree, Tree.wt, Tree.wts])
end Go.Proofs.YtinlibkkbjfmeaaDoor
