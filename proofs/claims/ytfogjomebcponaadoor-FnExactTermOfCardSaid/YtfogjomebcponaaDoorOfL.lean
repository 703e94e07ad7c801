/- The term of a type, of a function's type and of all types; its text and its size. -/
import Derived.Test.YtfogjomebcponaaDoorOfT
namespace Go.Proofs.YtfogjomebcponaaDoor
open Go.RowKit

set_option maxRecDepth 100000 in
set_option maxHeartbeats 4000000 in
theorem simple_fn (x y : Ty) (ihy : ∀ W, Calls Tryd.prog 12 #[y.val] W (SimpPost y.simp W)) (w : World) : Calls Tryd.prog 12 #[(Ty.fn x y).val] w (SimpPost (Ty.fn x y).simp w) := by
  have HY := hid ihy
  simp only [Ty.val, Ty.simp]
  obtain ⟨ux, vx, hx⟩ := x.val_iface
  have HXV := hid hx
  rw [hx]
  obtain ⟨uy, vy, hy⟩ := y.val_iface
  rw [hy] at HY ⊢
  obtain ⟨Y, hY⟩ : ∃ Y, y.simp = Y := ⟨_, rfl⟩
  rw [hY] at HY ⊢
  clear ihy hx hy hY
  obtain ⟨W0, hW0⟩ : ∃ W0, W0 = w.alloc (.cells #[.iface ux vx, .iface uy vy] 60) := ⟨_, rfl⟩
  have hh0 := heap_new w (.cells #[.iface ux vx, .iface uy vy] 60) w.heap.size rfl
  rw [← hW0] at hh0
  have hs0 : W0.heap.size = w.heap.size + 1 := by rw [hW0]; simp
  have hb0 : Below w.heap.size w W0 := by rw [hW0]; exact (Below.refl _ _).alloc (Nat.le_refl _) _
  have kc := cells_of_pair hh0
  have KC := hid (fun (W : World) (h : Below W0.heap.size W0 W) => cells_of_pair (block_below hh0 h (by omega)))
  have kca := KC.out (W0.drew.alloc (.cells #[.string { data := #[120] }] 9)) (((Below.refl W0.heap.size W0).drew).alloc (Nat.le_refl _) _)
  have HB0 := hid hb0
  have hwle : w.heap.size < W0.heap.size := by omega
  have HW0 := hid hW0
  clear hh0 hb0 hs0 hW0
  have aspair := as_fn_pair (.agg #[.iface ux vx, .iface uy vy])
  have asthunk := as_fn_thunk (.agg #[.iface ux vx, .iface uy vy])
  have asret := as_fn_ret (.agg #[.iface ux vx, .iface uy vy])
  have asfn := as_fn_fn (.agg #[.iface ux vx, .iface uy vy])
  go_enter Tryd.func12, Tryd.ntmps12
  go_wp2_with fail
  rw [← HW0.out]
  go_region_with (go_at_call 12; refine (HY.out _).mono ?_; rintro e w1 ⟨a, rfl, hn1, hb1⟩; have HN1 := hid hn1; have HBX := hid hb1; have hb01 : Below W0.heap.size W0 w1 := (by first | exact (Below.refl W0.heap.size W0).drew.trans hb1 | exact (((Below.refl W0.heap.size W0).drew).alloc (Nat.le_refl _) _).trans (hb1.mono (by simp))); have HB1 := hid hb01; have HS1 := hid hb01.size; have kc1 := KC.out _ hb01; have hlt1 := Nat.lt_of_lt_of_le hwle hb01.size; have hlt2 := Nat.lt_succ_of_lt hlt1; clear hn1 hb1 hb01)
  all_goals
    go_wp2_with fail
    go_ret
    have s1 := HS1.out
    first
    | (refine ⟨w1.heap.size + 1, rfl, node_lam (ty := x) (t := 35) (t2 := 9) (a := a) (g := w1.heap.size) (h := W0.heap.size) (by rw [HXV.out]; exact heap_new _ _ _ (by simp)) ?_ ?_ (by omega) (by omega) (by omega) ?_, ?_⟩
       · rw [heap_alloc_old _ _ (by simp)]; exact heap_new _ _ _ rfl
       · have h1 := HBX.out.block W0.heap.size (by simp)
         have h2 : (W0.drew.alloc (.cells #[.string strX] 9)).heap[W0.heap.size]? = some (.cells #[.string strX] 9 (0, 0)) := heap_new _ _ _ rfl
         have hs := HBX.out.size
         simp at hs
         rw [heap_alloc_old _ _ (by simp; omega), heap_alloc_old _ _ (by omega)]
         exact h1.trans h2
       · exact HN1.out.keep (fun k _ hl => ((Kept.refl w1).alloc (Nat.le_refl _) _ |>.alloc (by simp) _) k hl) (fun k hk _ => by simp at hk; omega)
       · exact ((HB0.out.trans (HB1.out.mono (by omega))).alloc (by omega) _).alloc (by simp; omega) _)
    | (refine ⟨w1.heap.size + 2, rfl, node_lam (ty := x) (t := 35) (t2 := 9) (a := a) (g := w1.heap.size + 1) (h := w1.heap.size) (by rw [HXV.out]; exact heap_new _ _ _ (by simp)) ?_ ?_ (by omega) (by omega) (by omega) ?_, ?_⟩
       · rw [heap_alloc_old _ _ (by simp)]; exact heap_new _ _ _ (by simp)
       · rw [heap_alloc_old _ _ (by simp; omega), heap_alloc_old _ _ (by simp)]; exact heap_new _ _ _ rfl
       · exact HN1.out.keep (fun k _ hl => (((Kept.refl w1).alloc (Nat.le_refl _) _ |>.alloc (by simp) _).alloc (by simp; omega) _) k hl) (fun k hk _ => by simp at hk; omega)
       · exact (((HB0.out.trans (HB1.out.mono (by omega))).alloc (by omega) _).alloc (by simp; omega) _).alloc (by simp; omega) _)
    | (refine ⟨w1.heap.size + 2, rfl, node_lam (ty := x) (t := 35) (t2 := 9) (a := a) (g := w1.heap.size) (h := w1.heap.size + 1) (by rw [HXV.out]; exact heap_new _ _ _ (by simp)) ?_ ?_ (by omega) (by omega) (by omega) ?_, ?_⟩
       · rw [heap_alloc_old _ _ (by simp; omega), heap_alloc_old _ _ (by simp)]; exact heap_new _ _ _ rfl
       · rw [heap_alloc_old _ _ (by simp)]; exact heap_new _ _ _ (by simp)
       · exact HN1.out.keep (fun k _ hl => (((Kept.refl w1).alloc (Nat.le_refl _) _ |>.alloc (by simp) _).alloc (by simp; omega) _) k hl) (fun k hk _ => by simp at hk; omega)
       · exact (((HB0.out.trans (HB1.out.mono (by omega))).alloc (by omega) _).alloc (by simp; omega) _).alloc (by simp; omega) _)

/-- THE PROGRAM's TERM OF A TYPE. -/
theorem simple_any : ∀ (t : Ty) (w : World), Calls Tryd.prog 12 #[t.val] w (SimpPost t.simp w)
  | .bit, w => simple_bit w
  | .pair x y, w => simple_pair x y (simple_any x) (simple_any y) w
  | .thunk x, w => simple_thunk x (simple_any x) w
  | .ret x, w => simple_ret x (simple_any x) w
  | .fn x y, w => simple_fn x y (simple_any y) w
  | .choice x y, w => simple_choice x y (simple_any x) (simple_any y) w
end Go.Proofs.YtfogjomebcponaaDoor
