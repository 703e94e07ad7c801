/- The program's meaning of an element of bits and pairs. -/
import Derived.Test.YtnmbkaemdblhpaaGreatDoorValQ
namespace Go.Proofs.YtnmbkaemdblhpaaGreatDoor
open Go.RowKit Go.Maps

theorem meaningOf_any : ∀ (t : Ty), t.vp = true → ∀ (cn : Nat), t.cnt = some cn → ∀ (k : Nat), k < cn → ∀ (mb b n : Nat) (D : DataW Unit) (cs : Array Value) (mt : TypeId) (fr : Nat × Nat) (w : World), w.heap[mb]? = some (.cells cs mt fr) → cs[2]? = some (.map (some b)) →
    w.ownsMap Tryz.prog 9 (plainElem Tryz.prog 3) b n D → Good D → n + t.bud ≤ 900000 →
    Calls Tryz.prog 16 #[.pointer (some ⟨mb, 0, none⟩), t.val, .int .i64 (k : Int)] w (VPost b n t.bud (t.vt k) w)
  | .bit, _, cn, hc, k, hk, mb, b, n, D, cs, mt, fr, w, hm, hcs, ho, hg, hn => by
    simp [Ty.cnt] at hc; subst hc
    exact meaningOf_bit k hk mb b n D w ho hg
  | .pair x y, hp, cn, hc, k, hk, mb, b, n, D, cs, mt, fr, w, hm, hcs, ho, hg, hn => by
    have hk5 := (cnt_range _ cn hc).2
    have hwp := vp_small hp hc
    obtain ⟨xn, yn, hx, hy, rfl⟩ := cnt_pair hc
    simp [Ty.vp] at hp
    have hy1 := (cnt_range y yn hy)
    have hwx := vp_small hp.1 hx
    have hwy := vp_small hp.2 hy
    have hvx := vt_size x (k / yn)
    have hvy := vt_size y (k % yn)
    rw [Ty.bud] at hn ⊢
    rw [← vt_pair x y k yn hy]
    exact meaningOf_pair x y k yn mb b n D (x.vt (k / yn)) (y.vt (k % yn)) cs mt fr w hm hcs ho hg (by omega) (by omega) (by omega) (by omega) (by omega) (by omega)
      (fun W n D o g h => by have := count_any y (by omega) W b n D o g h; rw [hy] at this; exact this)
      (fun W n D e o g h => meaningOf_any x hp.1 xn hx (k / yn) (Nat.div_lt_of_lt_mul (by rw [Nat.mul_comm]; exact hk)) mb b n D cs mt fr W (e.trans hm) hcs o g h)
      (fun W n D e o g h => meaningOf_any y hp.2 yn hy (k % yn) (Nat.mod_lt _ (by omega)) mb b n D cs mt fr W (e.trans hm) hcs o g h)
  | .thunk _, hp, _, _, _, _, _, _, _, _, _, _, _, _, _, _, _, _, _ => by simp [Ty.vp] at hp
  | .ret _, hp, _, _, _, _, _, _, _, _, _, _, _, _, _, _, _, _, _ => by simp [Ty.vp] at hp
  | .fn _ _, hp, _, _, _, _, _, _, _, _, _, _, _, _, _, _, _, _, _ => by simp [Ty.vp] at hp
  | .choice _ _, hp, _, _, _, _, _, _, _, _, _, _, _, _, _, _, _, _, _ => by simp [Ty.vp] at hp
end Go.Proofs.YtnmbkaemdblhpaaGreatDoor
