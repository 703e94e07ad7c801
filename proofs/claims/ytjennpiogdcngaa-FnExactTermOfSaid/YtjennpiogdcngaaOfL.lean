/- The term of a type, of a function's type and of all types; its text and its size. -/
import Derived.Test.YtjennpiogdcngaaOfT
namespace Go.Proofs.Ytjennpiogdcngaa
open Go.RowKit

set_option maxRecDepth 100000 in
set_option maxHeartbeats 4000000 in
theorem simple_fn (x y : Ty) (ihy : ∀ W, Calls Try.prog 9 #[y.val] W (SimpPost y.simp W)) (w : World) : Calls Try.prog 9 #[(Ty.fn x y).val] w (SimpPost (Ty.fn x y).simp w) := by
  have HY := hid ihy
  simp only [Ty.val, Ty.simp]
  obtain ⟨ux, vx, hx⟩ := x.val_iface
  have HXV := hid hx
  rw [hx]
  obtain ⟨uy, vy, hy⟩ := y.val_iface
  rw [hy] at HY ⊢
  obtain ⟨Y, hY⟩ : ∃ Y, y.simp = Y := ⟨_, rfl⟩
  rw [hY] at HY ⊢
  clear ihy hx hy hY
  obtain ⟨W0, hW0⟩ : ∃ W0, W0 = w.alloc (.cells #[.iface ux vx, .iface uy vy] 56) := ⟨_, rfl⟩
  have hh0 := heap_new w (.cells #[.iface ux vx, .iface uy vy] 56) w.heap.size rfl
  rw [← hW0] at hh0
  have hs0 : W0.heap.size = w.heap.size + 1 := by rw [hW0]; simp
  have hb0 : Below w.heap.size w W0 := by rw [hW0]; exact (Below.refl _ _).alloc (Nat.le_refl _) _
  have kc := cells_of_pair hh0
  have KC := hid (fun (W : World) (h : Below W0.heap.size W0 W) => cells_of_pair (block_below hh0 h (by omega)))
  have kca := KC.out (W0.drew.alloc (.cells #[.string { data := #[120] }] 9)) (((Below.refl W0.heap.size W0).drew).alloc (Nat.le_refl _) _)
  have HB0 := hid hb0
  have hwle : w.heap.size < W0.heap.size := by omega
  have HW0 := hid hW0
  clear hh0 hb0 hs0 hW0
  have aspair := as_fn_pair (.agg #[.iface ux vx, .iface uy vy])
  have asthunk := as_fn_thunk (.agg #[.iface ux vx, .iface uy vy])
  have asret := as_fn_ret (.agg #[.iface ux vx, .iface uy vy])
  have asfn := as_fn_fn (.agg #[.iface ux vx, .iface uy vy])
  go_enter Try.func9, Try.ntmps9
  go_wp2_with fail
  rw [← HW0.out]
  go_region_with (go_at_call 9; refine (HY.out _).mono ?_; rintro e w1 ⟨a, rfl, hn1, hb1⟩; have HN1 := hid hn1; have HBX := hid hb1; have hb01 : Below W0.heap.size W0 w1 := (by first | exact (Below.refl W0.heap.size W0).drew.trans hb1 | exact (((Below.refl W0.heap.size W0).drew).alloc (Nat.le_refl _) _).trans (hb1.mono (by simp))); have HB1 := hid hb01; have HS1 := hid hb01.size; have kc1 := KC.out _ hb01; have hlt1 := Nat.lt_of_lt_of_le hwle hb01.size; have hlt2 := Nat.lt_succ_of_lt hlt1; clear hn1 hb1 hb01)
  all_goals
    go_wp2_with fail
    go_ret
    have s1 := HS1.out
    first
    | (refine ⟨w1.heap.size + 1, rfl, node_lam (ty := x) (t := 35) (t2 := 9) (a := a) (g := w1.heap.size) (h := W0.heap.size) (by rw [HXV.out]; exact heap_new _ _ _ (by simp)) ?_ ?_ (by omega) (by omega) (by omega) ?_, ?_⟩
       · rw [heap_alloc_old _ _ (by simp)]; exact heap_new _ _ _ rfl
       · have h1 := HBX.out.block W0.heap.size (by simp)
         have h2 : (W0.drew.alloc (.cells #[.string strX] 9)).heap[W0.heap.size]? = some (.cells #[.string strX] 9 (0, 0)) := heap_new _ _ _ rfl
         have hs := HBX.out.size
         simp at hs
         rw [heap_alloc_old _ _ (by simp; omega), heap_alloc_old _ _ (by omega)]
         exact h1.trans h2
       · exact HN1.out.keep (fun k _ hl => ((Kept.refl w1).alloc (Nat.le_refl _) _ |>.alloc (by simp) _) k hl) (fun k hk _ => by simp at hk; omega)
       · exact ((HB0.out.trans (HB1.out.mono (by omega))).alloc (by omega) _).alloc (by simp; omega) _)
    | (refine ⟨w1.heap.size + 2, rfl, node_lam (ty := x) (t := 35) (t2 := 9) (a := a) (g := w1.heap.size + 1) (h := w1.heap.size) (by rw [HXV.out]; exact heap_new _ _ _ (by simp)) ?_ ?_ (by omega) (by omega) (by omega) ?_, ?_⟩
       · rw [heap_alloc_old _ _ (by simp)]; exact heap_new _ _ _ (by simp)
       · rw [heap_alloc_old _ _ (by simp; omega), heap_alloc_old _ _ (by simp)]; exact heap_new _ _ _ rfl
       · exact HN1.out.keep (fun k _ hl => (((Kept.refl w1).alloc (Nat.le_refl _) _ |>.alloc (by simp) _).alloc (by simp; omega) _) k hl) (fun k hk _ => by simp at hk; omega)
       · exact (((HB0.out.trans (HB1.out.mono (by omega))).alloc (by omega) _).alloc (by simp; omega) _).alloc (by simp; omega) _)
    | (refine ⟨w1.heap.size + 2, rfl, node_lam (ty := x) (t := 35) (t2 := 9) (a := a) (g := w1.heap.size) (h := w1.heap.size + 1) (by rw [HXV.out]; exact heap_new _ _ _ (by simp)) ?_ ?_ (by omega) (by omega) (by omega) ?_, ?_⟩
       · rw [heap_alloc_old _ _ (by simp; omega), heap_alloc_old _ _ (by simp)]; exact heap_new _ _ _ rfl
       · rw [heap_alloc_old _ _ (by simp)]; exact heap_new _ _ _ (by simp)
       · exact HN1.out.keep (fun k _ hl => (((Kept.refl w1).alloc (Nat.le_refl _) _ |>.alloc (by simp) _).alloc (by simp; omega) _) k hl) (fun k hk _ => by simp at hk; omega)
       · exact (((HB0.out.trans (HB1.out.mono (by omega))).alloc (by omega) _).alloc (by simp; omega) _).alloc (by simp; omega) _)

/-- THE PROGRAM's TERM OF A TYPE. -/
theorem simple_any : ∀ (t : Ty) (w : World), Calls Try.prog 9 #[t.val] w (SimpPost t.simp w)
  | .bit, w => simple_bit w
  | .pair x y, w => simple_pair x y (simple_any x) (simple_any y) w
  | .thunk x, w => simple_thunk x (simple_any x) w
  | .ret x, w => simple_ret x (simple_any x) w
  | .fn x y, w => simple_fn x y (simple_any y) w
  | .choice x y, w => simple_choice x y (simple_any x) (simple_any y) w
theorem strPair_l : strPair.toList = [112, 97, 105, 114] := by rw [Go.ByteArray.toList_eq]; rfl
theorem strThunk_l : strThunk.toList = [116, 104, 117, 110, 107] := by rw [Go.ByteArray.toList_eq]; rfl
theorem strReturn_l : strReturn.toList = [114, 101, 116, 117, 114, 110] := by rw [Go.ByteArray.toList_eq]; rfl
theorem strLam_l : strLam.toList = [108, 97, 109] := by rw [Go.ByteArray.toList_eq]; rfl
theorem strBoth_l : strBoth.toList = [98, 111, 116, 104] := by rw [Go.ByteArray.toList_eq]; rfl
theorem str0_l : str0.toList = [48] := by rw [Go.ByteArray.toList_eq]; rfl
theorem simp_fit : ∀ t : Ty, t.simp.fit
  | .bit => by rw [Ty.simp, Tm.fit]; exact ⟨(fun e => by rw [str0_l] at e; cases e), trivial⟩
  | .pair x y => by
    rw [Ty.simp, Tm.fit]
    exact ⟨fun _ => by rw [strPair_l, shape_pair]; exact ⟨rfl, rfl, fun h => absurd rfl h⟩, simp_fit x, simp_fit y, trivial⟩
  | .thunk x => by
    rw [Ty.simp, Tm.fit]
    exact ⟨fun _ => by rw [strThunk_l, shape_thunk]; exact ⟨rfl, rfl, fun h => absurd rfl h⟩, simp_fit x, trivial⟩
  | .ret x => by
    rw [Ty.simp, Tm.fit]
    exact ⟨fun _ => by rw [strReturn_l, shape_return]; exact ⟨rfl, rfl, fun h => absurd rfl h⟩, simp_fit x, trivial⟩
  | .fn x y => by
    rw [Ty.simp, Tm.fit]
    exact ⟨fun _ => by rw [strLam_l, shape_lam]; exact ⟨rfl, rfl, fun _ => by simp⟩, simp_fit y, trivial⟩
  | .choice x y => by
    rw [Ty.simp, Tm.fit]
    exact ⟨fun _ => by rw [strBoth_l, shape_both]; exact ⟨rfl, rfl, fun h => absurd rfl h⟩, simp_fit x, simp_fit y, trivial⟩
theorem simp_bit : Ty.bit.simp.write = [48] := by
  rw [Ty.simp, Tm.write, if_neg (by rw [str0_l]; simp)]; rfl
theorem simp_pair (x y : Ty) : (Ty.pair x y).simp.write = [40, 112, 97, 105, 114, 32] ++ x.simp.write ++ [32] ++ y.simp.write ++ [41] := by
  rw [Ty.simp, Tm.write, if_pos empty_toList, strPair_l, shape_pair]
  simp [Tm.writes, weave, strPair]
theorem simp_thunk (x : Ty) : (Ty.thunk x).simp.write = [40, 116, 104, 117, 110, 107, 32] ++ x.simp.write ++ [41] := by
  rw [Ty.simp, Tm.write, if_pos empty_toList, strThunk_l, shape_thunk]
  simp [Tm.writes, weave, strThunk]
theorem simp_ret (x : Ty) : (Ty.ret x).simp.write = [40, 114, 101, 116, 117, 114, 110, 32] ++ x.simp.write ++ [41] := by
  rw [Ty.simp, Tm.write, if_pos empty_toList, strReturn_l, shape_return]
  simp [Tm.writes, weave, strReturn]
theorem simp_fn (x y : Ty) : (Ty.fn x y).simp.write = [40, 108, 97, 109, 32, 120, 32] ++ x.write ++ [32] ++ y.simp.write ++ [41] := by
  rw [Ty.simp, Tm.write, if_pos empty_toList, strLam_l, shape_lam]
  simp [Tm.writes, weave, strLam, strX, tyText]
theorem simp_choice (x y : Ty) : (Ty.choice x y).simp.write = [40, 98, 111, 116, 104, 32] ++ x.simp.write ++ [32] ++ y.simp.write ++ [41] := by
  rw [Ty.simp, Tm.write, if_pos empty_toList, strBoth_l, shape_both]
  simp [Tm.writes, weave, strBoth]
theorem write_len : ∀ t : Ty, t.write.length ≤ 5 * t.atoms
  | .bit => by simp [Ty.write, Ty.atoms]
  | .pair x y => by have := write_len x; have := write_len y; simp [Ty.write, Ty.atoms]; omega
  | .thunk x => by have := write_len x; simp [Ty.write, Ty.atoms]; omega
  | .ret x => by have := write_len x; simp [Ty.write, Ty.atoms]; omega
  | .fn x y => by have := write_len x; have := write_len y; simp [Ty.write, Ty.atoms]; omega
  | .choice x y => by have := write_len x; have := write_len y; simp [Ty.write, Ty.atoms]; omega
theorem simp_len : ∀ t : Ty, t.simp.write.length ≤ 10 * t.atoms
  | .bit => by rw [simp_bit, Ty.atoms]; simp
  | .pair x y => by have := simp_len x; have := simp_len y; rw [simp_pair, Ty.atoms]; simp; omega
  | .thunk x => by have := simp_len x; rw [simp_thunk, Ty.atoms]; simp; omega
  | .ret x => by have := simp_len x; rw [simp_ret, Ty.atoms]; simp; omega
  | .fn x y => by have := write_len x; have := simp_len y; rw [simp_fn, Ty.atoms]; simp; omega
  | .choice x y => by have := simp_len x; have := simp_len y; rw [simp_choice, Ty.atoms]; simp; omega
end Go.Proofs.Ytjennpiogdcngaa
