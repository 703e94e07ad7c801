/- The term of a type: simpleTerm and text of the program. -/
import Derived.Test.YtfogjomebcponaaDoorItoa
import Derived.Test.YtfogjomebcponaaDoorTextT
import Derived.Test.YtfogjomebcponaaDoorTyR
import Derived.Test.YtfogjomebcponaaDoorAssertT
import Derived.Deep.RegionWith
import Derived.Test.YtfogjomebcponaaDoorOfPur
namespace Go.Proofs.YtfogjomebcponaaDoor
open Go.RowKit

theorem Tryd.infoPtrN : (Tryd.prog.info? 35).map (fun i => (i.zero, i.size, i.bytes)) = some (some (.pointer none), 1, 8) := by kernel_rfl

/-- What simpleTerm leaves. -/
def SimpPost (m : Tm) (w : World) (e : Ending) (w' : World) : Prop := ∃ b : Nat, e = .returned (.pointer (some ⟨b, 0, none⟩)) ∧ NIn w' (fun k => w.heap.size ≤ k) m b ∧ Below w.heap.size w w'
theorem ptrs_two (w : World) {g a c : Nat} {t : TypeId} {S : Nat → Prop} (hg : w.heap[g]? = some (.cells #[.pointer (some ⟨a, 0, none⟩), .pointer (some ⟨c, 0, none⟩)] t (0, 0))) (hS : S g) : RIn w S (some ⟨g, 0, none⟩) (ptrs (fun i => if i = 0 then a else c) 2) := by
  intro i v hv
  have hc := cells_of_pair hg
  match i, hv with
  | 0, hv => simp [ptrs] at hv; subst hv; exact ⟨g, rfl, hS, hc.1⟩
  | 1, hv => simp [ptrs] at hv; subst hv; exact ⟨g, rfl, hS, hc.2.1⟩
theorem ptrs_one (w : World) {g a : Nat} {t : TypeId} {S : Nat → Prop} (hg : w.heap[g]? = some (.cells #[.pointer (some ⟨a, 0, none⟩)] t (0, 0))) (hS : S g) : RIn w S (some ⟨g, 0, none⟩) (ptrs (fun _ => a) 1) := by
  intro i v hv
  match i, hv with
  | 0, hv => simp [ptrs] at hv; subst hv; exact ⟨g, rfl, hS, by simp [World.cell?, hg]⟩
theorem node_two {w : World} {S : Nat → Prop} {hd : ByteArray} {x y : Tm} {g a c b : Nat} {t : TypeId} (hb : w.heap[b]? = some (.cells #[.string hd, .string ByteArray.empty, .int .i64 0, .slice none 0 0, .nilIface, .slice (some ⟨g, 0, none⟩) 2 2] 54 (0, 0)))
    (hg : w.heap[g]? = some (.cells #[.pointer (some ⟨a, 0, none⟩), .pointer (some ⟨c, 0, none⟩)] t (0, 0))) (hSb : S b) (hSg : S g) (hx : NIn w S x a) (hy : NIn w S y c) : NIn w S (.mk hd ByteArray.empty 0 [] none [x, y]) b := by
  refine .mk _ _ _ _ _ _ b none 0 0 _ 2 2 (fun i => if i = 0 then a else c) hSb hb rfl rfl ⟨Nat.le_refl _, Nat.le_refl _⟩ (fun i v h => by simp at h) (ptrs_two w hg hSg) (fun i k h => ?_)
  match i, h with
  | 0, h => simp at h; subst h; exact hx
  | 1, h => simp at h; subst h; exact hy
theorem node_one {w : World} {S : Nat → Prop} {hd : ByteArray} {x : Tm} {g a b : Nat} {t : TypeId} (hb : w.heap[b]? = some (.cells #[.string hd, .string ByteArray.empty, .int .i64 0, .slice none 0 0, .nilIface, .slice (some ⟨g, 0, none⟩) 1 1] 54 (0, 0)))
    (hg : w.heap[g]? = some (.cells #[.pointer (some ⟨a, 0, none⟩)] t (0, 0))) (hSb : S b) (hSg : S g) (hx : NIn w S x a) : NIn w S (.mk hd ByteArray.empty 0 [] none [x]) b := by
  refine .mk _ _ _ _ _ _ b none 0 0 _ 1 1 (fun _ => a) hSb hb rfl rfl ⟨Nat.le_refl _, Nat.le_refl _⟩ (fun i v h => by simp at h) (ptrs_one w hg hSg) (fun i k h => ?_)
  match i, h with
  | 0, h => simp at h; subst h; exact hx
theorem node_lam {w : World} {S : Nat → Prop} {hd s : ByteArray} {ty : Ty} {x : Tm} {g h a b : Nat} {t t2 : TypeId} (hb : w.heap[b]? = some (.cells #[.string hd, .string ByteArray.empty, .int .i64 0, .slice (some ⟨h, 0, none⟩) 1 1, ty.val, .slice (some ⟨g, 0, none⟩) 1 1] 54 (0, 0)))
    (hg : w.heap[g]? = some (.cells #[.pointer (some ⟨a, 0, none⟩)] t (0, 0))) (hh : w.heap[h]? = some (.cells #[.string s] t2 (0, 0))) (hSb : S b) (hSg : S g) (hSh : S h) (hx : NIn w S x a) : NIn w S (.mk hd ByteArray.empty 0 [s] (some ty) [x]) b := by
  refine .mk _ _ _ _ _ _ b _ 1 1 _ 1 1 (fun _ => a) hSb hb rfl rfl ⟨Nat.le_refl _, Nat.le_refl _⟩ (fun i v hv => ?_) (ptrs_one w hg hSg) (fun i k h => ?_)
  · match i, hv with
    | 0, hv => simp at hv; subst hv; exact ⟨h, rfl, hSh, by simp [World.cell?, hh]⟩
  · match i, h with
    | 0, h => simp at h; subst h; exact hx

set_option maxRecDepth 100000 in
set_option maxHeartbeats 2000000 in
theorem simple_bit (w : World) : Calls Tryd.prog 12 #[Ty.bit.val] w (SimpPost Ty.bit.simp w) := by
  simp only [Ty.val]
  have aspair := as_bit_pair (.agg #[])
  have asthunk := as_bit_thunk (.agg #[])
  have asret := as_bit_ret (.agg #[])
  have asfn := as_bit_fn (.agg #[])
  have aschoice := as_bit_choice (.agg #[])
  have HB := hid (fun W => bitTerm_any 0 (by decide) W)
  go_enter Tryd.func12, Tryd.ntmps12
  go_wp2_with (go_at_call 24; refine (HB.out _).mono ?_; rintro e w1 ⟨b1, rfl, hn1, hb1⟩)
  go_ret
  exact ⟨b1, rfl, hn1, hb1⟩

set_option maxRecDepth 100000 in
set_option maxHeartbeats 2000000 in
theorem simple_thunk (x : Ty) (ihx : ∀ W, Calls Tryd.prog 12 #[x.val] W (SimpPost x.simp W)) (w : World) : Calls Tryd.prog 12 #[(Ty.thunk x).val] w (SimpPost (Ty.thunk x).simp w) := by
  have HX := hid ihx
  simp only [Ty.val, Ty.simp]
  obtain ⟨ux, vx, hx⟩ := x.val_iface
  rw [hx] at HX ⊢
  obtain ⟨X, hX⟩ : ∃ X, x.simp = X := ⟨_, rfl⟩
  rw [hX] at HX ⊢
  clear ihx hx hX
  have aspair := as_thunk_pair (.agg #[.iface ux vx])
  have asthunk := as_thunk_thunk (.agg #[.iface ux vx])
  go_enter Tryd.func12, Tryd.ntmps12
  go_wp2_with (go_at_call 12; refine (HX.out _).mono ?_; rintro e w1 ⟨a, rfl, hn1, hb1⟩; have HN := hid hn1; clear hn1)
  go_ret
  have s1 := hb1.size
  simp at s1
  refine ⟨w1.heap.size + 1, rfl, node_one (t := 35) (a := a) (g := w1.heap.size) (heap_new _ _ _ (by simp)) ?_ (by omega) (by omega) ?_, ?_⟩
  · rw [heap_alloc_old _ _ (by simp)]; exact heap_new _ _ _ rfl
  · exact HN.out.keep (fun k _ hl => ((Kept.refl w1).alloc (Nat.le_refl _) _ |>.alloc (by simp) _) k hl) (fun k hk _ => by simp at hk; omega)
  · exact ((((Below.refl w.heap.size w).alloc (Nat.le_refl _) _).trans (hb1.mono (by simp))).alloc (by omega) _).alloc (by simp; omega) _

set_option maxRecDepth 100000 in
set_option maxHeartbeats 2000000 in
theorem simple_ret (x : Ty) (ihx : ∀ W, Calls Tryd.prog 12 #[x.val] W (SimpPost x.simp W)) (w : World) : Calls Tryd.prog 12 #[(Ty.ret x).val] w (SimpPost (Ty.ret x).simp w) := by
  have HX := hid ihx
  simp only [Ty.val, Ty.simp]
  obtain ⟨ux, vx, hx⟩ := x.val_iface
  rw [hx] at HX ⊢
  obtain ⟨X, hX⟩ : ∃ X, x.simp = X := ⟨_, rfl⟩
  rw [hX] at HX ⊢
  clear ihx hx hX
  have aspair := as_ret_pair (.agg #[.iface ux vx])
  have asthunk := as_ret_thunk (.agg #[.iface ux vx])
  have asret := as_ret_ret (.agg #[.iface ux vx])
  go_enter Tryd.func12, Tryd.ntmps12
  go_wp2_with (go_at_call 12; refine (HX.out _).mono ?_; rintro e w1 ⟨a, rfl, hn1, hb1⟩; have HN := hid hn1; clear hn1)
  go_ret
  have s1 := hb1.size
  simp at s1
  refine ⟨w1.heap.size + 1, rfl, node_one (t := 35) (a := a) (g := w1.heap.size) (heap_new _ _ _ (by simp)) ?_ (by omega) (by omega) ?_, ?_⟩
  · rw [heap_alloc_old _ _ (by simp)]; exact heap_new _ _ _ rfl
  · exact HN.out.keep (fun k _ hl => ((Kept.refl w1).alloc (Nat.le_refl _) _ |>.alloc (by simp) _) k hl) (fun k hk _ => by simp at hk; omega)
  · exact ((((Below.refl w.heap.size w).alloc (Nat.le_refl _) _).trans (hb1.mono (by simp))).alloc (by omega) _).alloc (by simp; omega) _

set_option maxRecDepth 100000 in
set_option maxHeartbeats 4000000 in
theorem simple_pair (x y : Ty) (ihx : ∀ W, Calls Tryd.prog 12 #[x.val] W (SimpPost x.simp W)) (ihy : ∀ W, Calls Tryd.prog 12 #[y.val] W (SimpPost y.simp W)) (w : World) : Calls Tryd.prog 12 #[(Ty.pair x y).val] w (SimpPost (Ty.pair x y).simp w) := by
  have HX := hid ihx
  have HY := hid ihy
  simp only [Ty.val, Ty.simp]
  obtain ⟨ux, vx, hx⟩ := x.val_iface
  rw [hx] at HX ⊢
  obtain ⟨uy, vy, hy⟩ := y.val_iface
  rw [hy] at HY ⊢
  obtain ⟨X, hX⟩ : ∃ X, x.simp = X := ⟨_, rfl⟩
  rw [hX] at HX ⊢
  obtain ⟨Y, hY⟩ : ∃ Y, y.simp = Y := ⟨_, rfl⟩
  rw [hY] at HY ⊢
  clear ihx hx hX ihy hy hY
  obtain ⟨W0, hW0⟩ : ∃ W0, W0 = w.alloc (.cells #[.iface ux vx, .iface uy vy] 50) := ⟨_, rfl⟩
  have hh0 := heap_new w (.cells #[.iface ux vx, .iface uy vy] 50) w.heap.size rfl
  rw [← hW0] at hh0
  have hs0 : W0.heap.size = w.heap.size + 1 := by rw [hW0]; simp
  have hb0 : Below w.heap.size w W0 := by rw [hW0]; exact (Below.refl _ _).alloc (Nat.le_refl _) _
  have kc := cells_of_pair hh0
  have KC := hid (fun (W : World) (h : Below W0.heap.size W0 W) => cells_of_pair (block_below hh0 h (by omega)))
  have HB0 := hid hb0
  have hwle : w.heap.size < W0.heap.size := by omega
  have HW0 := hid hW0
  clear hh0 hb0 hs0 hW0
  have aspair := as_pair_pair (.agg #[.iface ux vx, .iface uy vy])
  go_enter Tryd.func12, Tryd.ntmps12
  go_wp2_with fail
  rw [← HW0.out]
  go_region_with (first
    | (go_at_call 12; have _ := HN1; refine (HY.out _).mono ?_; rintro e w2 ⟨c, rfl, hn2, hb2⟩; have HN2 := hid hn2; have HB2 := hid hb2; have kc2 := KC.out _ (HB1.out.trans (hb2.mono HS1.out)); have HB12 := hid (HB1.out.trans (hb2.mono HS1.out)); clear hn2 hb2)
    | (go_at_call 12; refine (HX.out _).mono ?_; rintro e w1 ⟨a, rfl, hn1, hb1⟩; have HN1 := hid hn1; have hb01 := (Below.refl W0.heap.size W0).drew.trans hb1; have HB1 := hid hb01; have HS1 := hid hb01.size; have kc1 := KC.out _ hb01; clear hn1 hb1 hb01))
  all_goals
    go_wp2_with fail
    go_ret
    have s12 := HB12.out.size
    have s1 := HS1.out
    refine ⟨w2.heap.size + 1, rfl, node_two (t := 35) (a := a) (c := c) (g := w2.heap.size) (heap_new _ _ _ (by simp)) ?_ (by omega) (by omega) ?_ ?_, ?_⟩
    · rw [heap_alloc_old _ _ (by simp)]; exact heap_new _ _ _ rfl
    · refine (HN1.out.keep (w' := w2) (S' := fun k => w.heap.size ≤ k) (fun k _ hl => HB2.out.block k hl) (fun k (hk : W0.heap.size ≤ k) _ => by omega)).keep (fun k _ hl => ((Kept.refl w2).alloc (Nat.le_refl _) _ |>.alloc (by simp) _) k hl) (fun k hk _ => hk)
    · exact HN2.out.keep (fun k _ hl => ((Kept.refl w2).alloc (Nat.le_refl _) _ |>.alloc (by simp) _) k hl) (fun k hk _ => by omega)
    · exact ((HB0.out.trans (HB12.out.mono (by omega))).alloc (by omega) _).alloc (by simp; omega) _

set_option maxRecDepth 100000 in
set_option maxHeartbeats 4000000 in
theorem simple_choice (x y : Ty) (ihx : ∀ W, Calls Tryd.prog 12 #[x.val] W (SimpPost x.simp W)) (ihy : ∀ W, Calls Tryd.prog 12 #[y.val] W (SimpPost y.simp W)) (w : World) : Calls Tryd.prog 12 #[(Ty.choice x y).val] w (SimpPost (Ty.choice x y).simp w) := by
  have HX := hid ihx
  have HY := hid ihy
  simp only [Ty.val, Ty.simp]
  obtain ⟨ux, vx, hx⟩ := x.val_iface
  rw [hx] at HX ⊢
  obtain ⟨uy, vy, hy⟩ := y.val_iface
  rw [hy] at HY ⊢
  obtain ⟨X, hX⟩ : ∃ X, x.simp = X := ⟨_, rfl⟩
  rw [hX] at HX ⊢
  obtain ⟨Y, hY⟩ : ∃ Y, y.simp = Y := ⟨_, rfl⟩
  rw [hY] at HY ⊢
  clear ihx hx hX ihy hy hY
  obtain ⟨W0, hW0⟩ : ∃ W0, W0 = w.alloc (.cells #[.iface ux vx, .iface uy vy] 61) := ⟨_, rfl⟩
  have hh0 := heap_new w (.cells #[.iface ux vx, .iface uy vy] 61) w.heap.size rfl
  rw [← hW0] at hh0
  have hs0 : W0.heap.size = w.heap.size + 1 := by rw [hW0]; simp
  have hb0 : Below w.heap.size w W0 := by rw [hW0]; exact (Below.refl _ _).alloc (Nat.le_refl _) _
  have kc := cells_of_pair hh0
  have KC := hid (fun (W : World) (h : Below W0.heap.size W0 W) => cells_of_pair (block_below hh0 h (by omega)))
  have HB0 := hid hb0
  have hwle : w.heap.size < W0.heap.size := by omega
  have HW0 := hid hW0
  clear hh0 hb0 hs0 hW0
  have aspair := as_choice_pair (.agg #[.iface ux vx, .iface uy vy])
  have asthunk := as_choice_thunk (.agg #[.iface ux vx, .iface uy vy])
  have asret := as_choice_ret (.agg #[.iface ux vx, .iface uy vy])
  have asfn := as_choice_fn (.agg #[.iface ux vx, .iface uy vy])
  have aschoice := as_choice_choice (.agg #[.iface ux vx, .iface uy vy])
  go_enter Tryd.func12, Tryd.ntmps12
  go_wp2_with fail
  rw [← HW0.out]
  go_region_with (first
    | (go_at_call 12; have _ := HN1; refine (HY.out _).mono ?_; rintro e w2 ⟨c, rfl, hn2, hb2⟩; have HN2 := hid hn2; have HB2 := hid hb2; have kc2 := KC.out _ (HB1.out.trans (hb2.mono HS1.out)); have HB12 := hid (HB1.out.trans (hb2.mono HS1.out)); clear hn2 hb2)
    | (go_at_call 12; refine (HX.out _).mono ?_; rintro e w1 ⟨a, rfl, hn1, hb1⟩; have HN1 := hid hn1; have hb01 := (Below.refl W0.heap.size W0).drew.trans hb1; have HB1 := hid hb01; have HS1 := hid hb01.size; have kc1 := KC.out _ hb01; clear hn1 hb1 hb01))
  all_goals
    go_wp2_with fail
    go_ret
    have s12 := HB12.out.size
    have s1 := HS1.out
    refine ⟨w2.heap.size + 1, rfl, node_two (t := 35) (a := a) (c := c) (g := w2.heap.size) (heap_new _ _ _ (by simp)) ?_ (by omega) (by omega) ?_ ?_, ?_⟩
    · rw [heap_alloc_old _ _ (by simp)]; exact heap_new _ _ _ rfl
    · refine (HN1.out.keep (w' := w2) (S' := fun k => w.heap.size ≤ k) (fun k _ hl => HB2.out.block k hl) (fun k (hk : W0.heap.size ≤ k) _ => by omega)).keep (fun k _ hl => ((Kept.refl w2).alloc (Nat.le_refl _) _ |>.alloc (by simp) _) k hl) (fun k hk _ => hk)
    · exact HN2.out.keep (fun k _ hl => ((Kept.refl w2).alloc (Nat.le_refl _) _ |>.alloc (by simp) _) k hl) (fun k hk _ => by omega)
    · exact ((HB0.out.trans (HB12.out.mono (by omega))).alloc (by omega) _).alloc (by simp; omega) _
end Go.Proofs.YtfogjomebcponaaDoor
