/- Merged: MkU. -/
import Derived.Test.YtagifgekhboinaaGreatDoorDASMkF
import Derived.Test.YtagifgekhboinaaGreatDoorDA34
import Derived.Test.YtagifgekhboinaaGreatDoorDA29
import Derived.Test.YtagifgekhboinaaGreatDoorDASMkK
import Derived.Test.YtagifgekhboinaaGreatDoorDASMkT
namespace Go.Proofs.YtagifgekhboinaaGreatDoor
open Go.RowKit

theorem LPost.up {mb c a k k' : Nat} {S : Nat → Prop} {t : Tree} {w w' : World} {e : Ending} (h : LPost mb c a k S t w e w') (hk : k ≤ k') : LPost mb c a k' S t w e w' :=
  let ⟨x, a', h1, h2, h3, h4, h5⟩ := h
  ⟨x, a', h1, h2, by omega, h4, h5⟩
theorem outM1 (k xn : Nat) (h : (k : Int) < (2 * (xn : Int) + 1) * (2 * (xn : Int) + 1)) : outc (k : Int) 1 xn = ((k / (2 * xn + 1) : Nat) : Int) := by
  rw [outc_one _ _ (by omega) h]; rfl
theorem outM0 (k xn : Nat) : outc (k : Int) 0 xn = ((k % (2 * xn + 1) : Nat) : Int) := by
  unfold outc; rw [if_neg (by decide)]; rfl
theorem l6dOutcome_any (x : Ty) (xn o mb c a : Nat) (S : Nat → Prop) (hS : Own mb S) (h : Hd) (w : World) (ht : TIn w S (Ty.ret x).tree h) (hM : MIn mb c a w) (ha : a + x.dat ≤ 18000) (hwf : x.wf = true) (hx : x.cnt = some xn) (ho2 : o ≤ 2 * xn) (ho5 : o ≤ 5000)
    (H : ∀ j, j < xn → ∀ (S : Nat → Prop) (h : Hd) W a', Own mb S → TIn W S x.tree h → MIn mb c a' W → a' ≤ a → Calls Tryz.prog 23 #[.pointer (some ⟨mb, 0, none⟩), .agg #[.string h.a, .slice h.p h.l h.c], .int .i64 (j : Int)] W (LPost mb (x.dt j c).2 a' x.dat S (x.dt j c).1 W)) :
    Calls Tryz.prog 49 #[.pointer (some ⟨mb, 0, none⟩), .agg #[.string h.a, .slice h.p h.l h.c], .int .i64 (o : Int)] w (LPost mb (outD (Ty.ret x).tree xn x.dt o c).2 a (x.dat + 3) S (outD (Ty.ret x).tree xn x.dt o c).1 w) := by
  have hr := cnt_range x xn hx
  unfold outD
  by_cases h0 : o = 0
  · subst h0
    rw [if_pos rfl]
    exact (l6dOutcome_fail mb c a S hS _ h.a h.p h.l h.c w ht hM (by omega)).mono fun e w' hp => hp.up (by omega)
  · rw [if_neg h0]
    exact l6dOutcome_put x xn o mb c _ a x.dat _ S hS h.a h.p h.l h.c w ht hM ha hwf hx (by omega) ho2 ho5 (fun S h W a' h1 h2 h3 h4 => H ((o - 1) % xn) (Nat.mod_lt _ (by omega)) S h W a' h1 h2 h3 h4)

/-- THE MODEL's DEFINING TERM of an element. -/
theorem l6dDefine_any : ∀ (t : Ty), t.kn = true → t.wf = true → t.lt ≤ 12 → ∀ (tn : Nat), t.cnt = some tn → ∀ (k : Nat), k < tn → ∀ (mb c a : Nat) (S : Nat → Prop), Own mb S → ∀ (h : Hd) (w : World), TIn w S t.tree h → MIn mb c a w → a + t.dat ≤ 10000 → c + t.dnm ≤ 9 →
    Calls Tryz.prog 23 #[.pointer (some ⟨mb, 0, none⟩), .agg #[.string h.a, .slice h.p h.l h.c], .int .i64 (k : Int)] w (LPost mb (t.dt k c).2 a t.dat S (t.dt k c).1 w)
  | .bit, _, _, _, tn, hc, k, hk, mb, c, a, S, hS, h, w, ht, hM, _, _ => by
    simp [Ty.cnt] at hc; subst hc
    obtain ⟨ta, tp, tl, tc⟩ := h
    obtain ⟨rfl, rfl, rfl, rfl⟩ := atom_text ht
    exact l6dDefine_bit mb c a k hk S w hM
  | .pair x y, hkn, hw, hl, tn, hc, k, hk, mb, c, a, S, hS, h, w, ht, hM, ha, hcc => by
    have hr := cnt_range _ tn hc
    obtain ⟨xn, yn, hx, hy, rfl⟩ := cnt_pair hc
    simp only [Ty.kn, Bool.and_eq_true] at hkn
    simp only [Ty.wf, Bool.and_eq_true] at hw
    have l1 := lt_pos x; have l2 := lt_pos y
    rw [Ty.lt] at hl
    have hry := cnt_range y yn hy
    have e : y.cnt.getD 1 = yn := by rw [hy]; rfl
    have hnm := dt_nm x (k / yn) c
    rw [Ty.dat] at ha ⊢
    rw [Ty.dnm] at hcc
    rw [Ty.dt, e]
    exact l6dDefine_pair x y k yn mb c _ _ a x.dat y.dat _ _ S hS h.a h.p h.l h.c w ht hM (by omega) (by omega) hw.1.1.2 hy (by omega)
      (fun S h W h1 h2 h3 => l6dDefine_any x hkn.1.1.1 hw.1.1.1 (by omega) xn hx (k / yn) (Nat.div_lt_of_lt_mul (by rw [Nat.mul_comm]; exact hk)) mb c a S h1 h W h2 h3 (by omega) (by omega))
      (fun S h W a' h1 h2 h3 h4 => l6dDefine_any y hkn.1.1.2 hw.1.1.2 (by omega) yn hy (k % yn) (Nat.mod_lt _ (by omega)) mb _ a' S h1 h W h2 h3 (by omega) (by omega))
  | .choice x y, hkn, hw, hl, tn, hc, k, hk, mb, c, a, S, hS, h, w, ht, hM, ha, hcc => by
    have hr := cnt_range _ tn hc
    obtain ⟨xn, yn, hx, hy, rfl⟩ := cnt_choice hc
    simp only [Ty.kn, Bool.and_eq_true] at hkn
    simp only [Ty.wf, Bool.and_eq_true] at hw
    have l1 := lt_pos x; have l2 := lt_pos y
    rw [Ty.lt] at hl
    have hry := cnt_range y yn hy
    have e : y.cnt.getD 1 = yn := by rw [hy]; rfl
    have hnm := dt_nm x (k / yn) c
    rw [Ty.dat] at ha ⊢
    rw [Ty.dnm] at hcc
    rw [Ty.dt, e]
    exact l6dDefine_choice x y k yn mb c _ _ a x.dat y.dat _ _ S hS h.a h.p h.l h.c w ht hM (by omega) (by omega) hw.1.1.2 hy (by omega)
      (fun S h W h1 h2 h3 => l6dDefine_any x hkn.1.1.1 hw.1.1.1 (by omega) xn hx (k / yn) (Nat.div_lt_of_lt_mul (by rw [Nat.mul_comm]; exact hk)) mb c a S h1 h W h2 h3 (by omega) (by omega))
      (fun S h W a' h1 h2 h3 h4 => l6dDefine_any y hkn.1.1.2 hw.1.1.2 (by omega) yn hy (k % yn) (Nat.mod_lt _ (by omega)) mb _ a' S h1 h W h2 h3 (by omega) (by omega))
  | .thunk x, hkn, hw, hl, tn, hc, k, hk, mb, c, a, S, hS, h, w, ht, hM, ha, hcc => by
    simp only [Ty.kn, Bool.and_eq_true] at hkn
    simp only [Ty.wf, Bool.and_eq_true] at hw
    rw [Ty.cnt] at hc
    rw [Ty.lt] at hl
    rw [Ty.dat] at ha ⊢
    rw [Ty.dnm] at hcc
    rw [Ty.dt]
    exact (l6dDefine_thunk x mb c _ a k x.dat _ S hS h.a h.p h.l h.c w ht hM (by omega) (by omega)
      (fun S h W h1 h2 h3 => l6dDefine_any x hkn.1 hw.1 hl tn hc k hk mb c a S h1 h W h2 h3 (by omega) (by omega))).mono fun e w' hp => hp.up (by omega)
  | .ret x, hkn, hw, hl, tn, hc, k, hk, mb, c, a, S, hS, h, w, ht, hM, ha, hcc => by
    have hr := cnt_range _ tn hc
    have hwr := hw
    obtain ⟨xn, hx, rfl⟩ := cnt_ret hc
    simp only [Ty.kn, Bool.and_eq_true] at hkn
    simp only [Ty.wf, Bool.and_eq_true] at hw
    rw [Ty.lt] at hl
    have hrx := cnt_range x xn hx
    have e : x.cnt.getD 1 = xn := by rw [hx]; rfl
    have hkx : (k : Int) < (2 * (xn : Int) + 1) * (2 * (xn : Int) + 1) := by exact_mod_cast hk
    have hnm := outD_nm (a := x) (n := xn) (o := k / (2 * xn + 1)) (c := c + 1) (tr := (Ty.ret x).tree) (dt_nm x)
    have o1 : k / (2 * xn + 1) ≤ 2 * xn := Nat.le_of_lt_succ (Nat.div_lt_of_lt_mul hk)
    have o0 : k % (2 * xn + 1) ≤ 2 * xn := Nat.le_of_lt_succ (Nat.mod_lt _ (by omega))
    have o15 : k / (2 * xn + 1) ≤ 5000 := Nat.le_trans (Nat.div_le_self _ _) (by omega)
    have o05 : k % (2 * xn + 1) ≤ 5000 := Nat.le_trans (Nat.mod_le _ _) (by omega)
    rw [Ty.dat] at ha ⊢
    rw [Ty.dnm] at hcc
    rw [Ty.dt, e]
    exact (l6dDefine_ret x k xn _ _ mb c _ _ a x.dat _ _ S hS h.a h.p h.l h.c w ht hM (by omega) (by omega) hwr hx (by omega) (outM1 k xn hkx) (outM0 k xn)
      (fun S h W a' h1 h2 h3 h4 => l6dOutcome_any x xn _ mb (c + 1) a' S h1 h W h2 h3 (by omega) hw.1 hx o1 o15
        (fun j hj S h W a'' g1 g2 g3 g4 => l6dDefine_any x hkn.1 hw.1 (by omega) xn hx j hj mb (c + 1) a'' S g1 h W g2 g3 (by omega) (by omega)))
      (fun S h W a' h1 h2 h3 h4 => l6dOutcome_any x xn _ mb _ a' S h1 h W h2 h3 (by omega) hw.1 hx o0 o05
        (fun j hj S h W a'' g1 g2 g3 g4 => l6dDefine_any x hkn.1 hw.1 (by omega) xn hx j hj mb _ a'' S g1 h W g2 g3 (by omega) (by omega)))).mono fun e w' hp => hp.up (by omega)
  | .fn b y, hkn, hw, hl, tn, hc, k, hk, mb, c, a, S, hS, h, w, ht, hM, ha, hcc => by
    have hr := cnt_range _ tn hc
    simp only [Ty.kn, Bool.and_eq_true, Bool.not_eq_true', beq_iff_eq] at hkn
    have hb : b = .bit := by cases b <;> simp [Ty.write] at hkn ⊢
    subst hb
    have hwf := hw
    obtain ⟨x2, yn, hx, hy, rfl, _⟩ := cnt_fn hc
    have e2 : x2 = 2 := by simp [Ty.cnt] at hx; omega
    subst e2
    simp only [Ty.wf, Bool.and_eq_true] at hw
    rw [Ty.lt] at hl
    have hry := cnt_range y yn hy
    have e : y.cnt.getD 1 = yn := by rw [hy]; rfl
    have hnm := dt_nm y (k % yn) (c + 2)
    have f0 : atN k yn 0 = k % yn := by simp [atN]
    have f1 : atN k yn 1 = k / yn % yn := by simp [atN]
    rw [Ty.dat] at ha ⊢
    rw [Ty.dnm] at hcc
    rw [Ty.dt, e]
    exact (l6dDefine_fn y k mb c _ a (11 + 2 * y.dat) _ S hS h.a h.p h.l h.c w ht hM (by omega) (by omega)
      (fun S h W a' h1 h2 h3 h4 => l6dCases_first y k yn mb (c + 1) _ _ a' y.dat S h1 h.a h.p h.l h.c (nmB c) none 0 0 W h2 h3 hwf hy (by omega) (.atom (nmB c)) _ _ (name_in W S c) (by omega) (by omega)
        (fun S h W a'' g1 g2 g3 g4 => by rw [f0]; exact l6dDefine_any y hkn.1.2 hw.1.1.2 (by omega) yn hy (k % yn) (Nat.mod_lt _ (by omega)) mb (c + 2) a'' S g1 h W g2 g3 (by omega) (by omega))
        (fun S h hv W a'' g1 g2 g3 g4 g5 => l6dCases_last y k yn mb _ _ a'' y.dat S g1 h.a h.p h.l h.c hv.a hv.p hv.l hv.c W g2 g4 hwf hy (by omega) _
          (fun S h W r1 r2 r3 => by rw [f1]; exact l6dDefine_any y hkn.1.2 hw.1.1.2 (by omega) yn hy (k / yn % yn) (Nat.mod_lt _ (by omega)) mb _ a'' S r1 h W r2 r3 (by omega) (by omega))))).mono fun e w' hp => hp.up (by omega)
end Go.Proofs.YtagifgekhboinaaGreatDoor
