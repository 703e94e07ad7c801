/- Merged: StK. -/
import Derived.Test.YtgogoekfidbpdaaDoorSQSStJ
namespace Go.Proofs.YtgogoekfidbpdaaDoor
open Go.RowKit

theorem SIn.off {w : World} {S : Nat → Prop} {s : STy} {a g : Nat} {cur : Array Value} {r : Nat × Nat} (h : SIn w S s a) (hg : w.heap[g]? = some (.cells cur 48 r)) : SIn w (fun x => x ≠ g) s a := by
  have key : ∀ (b : Nat) (c2 : Array Value) (r2 : Nat × Nat), w.heap[b]? = some (.cells c2 78 r2) → b ≠ g := by
    intro b c2 r2 hb e
    subst e; rw [hb] at hg
    injection hg with hg
    injection hg with _ h2 _
    exact absurd h2 (by decide)
  induction h with
  | bit hd hh b hS hb => exact .bit hd hh b (key b _ _ hb) hb
  | fn hd hh x y b c d hS hb hx hy ihx ihy => exact .fn hd hh x y b c d (key b _ _ hb) hb ihx ihy
  | pair hd hh x y b c d hS hb hx hy ihx ihy => exact .pair hd hh x y b c d (key b _ _ hb) hb ihx ihy
theorem SIn.grown {w w2 : World} {s : STy} {a base n : Nat} {v : Value} {xs : List Value} (h : SIn w (fun _ => True) s a) (ho : w.ownsRow base 48 1 v n xs) (hg : w.grownBy w2 v.ownBlock) : SIn w2 (fun _ => True) s a := by
  rcases ho.2 with ⟨hv, _⟩ | ⟨g, cap, cur, hv, _, hb, _⟩
  · exact h.keep (fun k _ hl => hg.block k hl (by subst hv; intro e; cases e)) (fun _ _ _ => trivial)
  · exact (h.off hb).keep (fun k hk hl => hg.block k hl (by subst hv; intro e; exact hk (Option.some.inj e))) (fun _ _ _ => trivial)
theorem EIn.grown {w w2 : World} {base n : Nat} {v : Value} {xs : List Value} (ho : w.ownsRow base 48 1 v n xs) (hg : w.grownBy w2 v.ownBlock) : ∀ {env : List (ByteArray × STy)} {p : Option Addr}, EIn w env p → EIn w2 env p
  | [], _, h => h
  | (_, _) :: _, _, ⟨f, a, q, hp, hb, hs, he⟩ => by
    refine ⟨f, a, q, hp, ?_, hs.grown ho hg, he.grown ho hg⟩
    rw [hg.block f (lt_of_block hb) ?_]
    · exact hb
    · rcases ho.2 with ⟨hv, _⟩ | ⟨g, cap, cur, hv, _, hb2, _⟩
      · subst hv; intro e; cases e
      · subst hv
        intro e
        have hfg : f = g := Option.some.inj e
        subst hfg
        rw [hb] at hb2
        injection hb2 with hb2
        injection hb2 with _ h2 _
        exact absurd h2 (by decide)
theorem EIn.drew {w : World} {env : List (ByteArray × STy)} {p : Option Addr} (h : EIn w env p) : EIn w.drew env p := EIn.kept (w := w) (w' := w.drew) (fun _ _ => rfl) h
/-- Own cells are a row. -/
theorem own_row {w : World} {base n c : Nat} {t : TypeId} {q : Option Addr} {xs : List Value} (h : w.ownsRow base t 1 (.slice q n c) n xs) : RIn w (fun _ => True) q xs := by
  intro i v hv
  have hl := h.1
  rcases h.2 with ⟨hv2, hn⟩ | ⟨g, cap, cur, hv2, hbg, _⟩
  · have := (List.getElem?_eq_some_iff.1 hv).1
    omega
  · obtain ⟨rfl, _⟩ : q = some ⟨g, 0, none⟩ ∧ c = cap := by simp at hv2; exact hv2
    have hc := h.cells (g := g) rfl i v hv
    have hadd : (⟨g, 0, none⟩ : Addr).add i = ⟨g, i, none⟩ := by unfold Addr.add; split <;> simp_all
    rw [hadd] at hc
    exact ⟨g, rfl, trivial, hc⟩
theorem row_0 {w : World} {S : Nat → Prop} {q : Option Addr} {A : Nat → Nat} {n : Nat} (h : RIn w S q (ptrs A n)) (hn : 0 < n) : ∃ g, q = some ⟨g, 0, none⟩ ∧ ∀ i, i < n → w.cell? ⟨g, i, none⟩ = some (.pointer (some ⟨A i, 0, none⟩)) := by
  obtain ⟨g, hq, _, _⟩ := h 0 _ (ptrs_get A hn)
  refine ⟨g, hq, fun i hi => ?_⟩
  obtain ⟨g2, hq2, _, hc⟩ := h i _ (ptrs_get A hi)
  rw [hq] at hq2
  have : g = g2 := by simpa using hq2
  rw [this]; exact hc
theorem len2 {α : Type} {l : List α} (h : l.length = 2) : ∃ a b, l = [a, b] := match l, h with
  | [a, b], _ => ⟨a, b, rfl⟩
theorem len3 {α : Type} {l : List α} (h : l.length = 3) : ∃ a b c, l = [a, b, c] := match l, h with
  | [a, b, c], _ => ⟨a, b, c, rfl⟩
theorem typeFrom_any {w : World} {e : Sx} {b : Nat} {tq : Option Addr} (k0 : w.cell? ⟨b, 0, none⟩ = some (.string e.head)) (k1 : w.cell? ⟨b, 1, none⟩ = some (.string e.atom)) (k3 : w.cell? ⟨b, 3, none⟩ = some (.pointer tq)) (hty : SyIn w (fun _ => True) e.ty (.pointer tq))
    {ts : List STy} (hl : ts.length = e.kids.length) (hn : ∀ t ∈ ts, t.n ≤ 12) {q : Option Addr} {m c : Nat} (hm : m = ts.length) {A : Nat → Nat} (hq : RIn w (fun _ => True) q (ptrs A m)) (ht : ∀ i t, ts[i]? = some t → SIn w (fun _ => True) t (A i))
    {env : List (ByteArray × STy)} {p : Option Addr} (he : EIn w env p) :
    Calls Tryd.prog 54 #[.pointer (some ⟨b, 0, none⟩), .slice q m c, .pointer p] w (T7Post (e.tfrom ts env) w) := by
  subst hm
  cases e with
  | name a => exact tf_name hName_l k0 k1 he
  | bit a => exact tf_bit hBit_l k0
  | lam x s e =>
    obtain ⟨t, rfl⟩ := List.length_eq_one_iff.1 hl
    obtain ⟨g, rfl, hc⟩ := row_0 hq (by simp)
    obtain ⟨a, ea, hs⟩ := hty
    rw [ea] at k3
    exact tf_lam hLam_l k0 k3 hs (hc 0 (by simp)) (ht 0 t rfl)
  | app d e =>
    obtain ⟨t, u, rfl⟩ := len2 hl
    obtain ⟨g, rfl, hc⟩ := row_0 hq (by simp)
    have := tf_app (c := c) (q := p) hApp_l k0 (hc 0 (by simp)) (ht 0 t rfl) (hc 1 (by simp)) (ht 1 u rfl) ⟨hn t (by simp), hn u (by simp)⟩
    rw [show (Sx.app d e).tfrom [t, u] env = tfApp t u from by cases t <;> rfl]
    exact this
  | iff d e g =>
    obtain ⟨t, u, v, rfl⟩ := len3 hl
    obtain ⟨g, rfl, hc⟩ := row_0 hq (by simp)
    have := tf_if (c := c) (q := p) hIf_l k0 (hc 0 (by simp)) (ht 0 t rfl) (hc 1 (by simp)) (ht 1 u rfl) (hc 2 (by simp)) (ht 2 v rfl) ⟨hn u (by simp), hn v (by simp)⟩
    rw [show (Sx.iff d e _).tfrom [t, u, v] env = tfIf t u v from by cases t <;> rfl]
    exact this
  | pair d e =>
    obtain ⟨t, u, rfl⟩ := len2 hl
    obtain ⟨g, rfl, hc⟩ := row_0 hq (by simp)
    exact tf_pair hPair_l k0 (hc 0 (by simp)) (ht 0 t rfl) (hc 1 (by simp)) (ht 1 u rfl)
  | fst e =>
    obtain ⟨t, rfl⟩ := List.length_eq_one_iff.1 hl
    obtain ⟨g, rfl, hc⟩ := row_0 hq (by simp)
    have := tf_fst (c := c) (q := p) hFst_l k0 (hc 0 (by simp)) (ht 0 t rfl)
    rw [show (Sx.fst e).tfrom [t] env = tfFst t from by cases t <;> rfl]
    exact this
  | snd e =>
    obtain ⟨t, rfl⟩ := List.length_eq_one_iff.1 hl
    obtain ⟨g, rfl, hc⟩ := row_0 hq (by simp)
    have := tf_snd (c := c) (q := p) hSnd_l k0 (hc 0 (by simp)) (ht 0 t rfl)
    rw [show (Sx.snd e).tfrom [t] env = tfSnd t from by cases t <;> rfl]
    exact this
  | get => exact tf_get hGet_l k0
  | put e =>
    obtain ⟨t, rfl⟩ := List.length_eq_one_iff.1 hl
    obtain ⟨g, rfl, hc⟩ := row_0 hq (by simp)
    have := tf_put (c := c) (q := p) hPut_l k0 (hc 0 (by simp)) (ht 0 t rfl)
    rw [show (Sx.put e).tfrom [t] env = tfPut t from by cases t <;> rfl]
    exact this
  | fail s =>
    obtain ⟨a, ea, hs⟩ := hty
    rw [ea] at k3
    exact tf_fail hFail_l k0 k3 hs
end Go.Proofs.YtgogoekfidbpdaaDoor
