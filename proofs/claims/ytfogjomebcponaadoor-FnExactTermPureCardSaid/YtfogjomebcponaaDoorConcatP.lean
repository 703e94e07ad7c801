/- append of a list of texts to a slice of the call's own. -/
import Derived.Test.YtfogjomebcponaaDoorSvP
import Derived.Lib.AppendZeros
import Derived.Laws.OwnMore
namespace Go.Proofs.YtfogjomebcponaaDoor
open Go.RowKit

/-- The law on append of a list of texts to a list of the call's own. -/
theorem wpList_append_sv {P : Program} (w : World) {ops : Array Oper} {rest : List Oper} {o : Oper} {a : Act} {Q : Exit → Act → World → Prop} (hgd : o.guard = none) (s x : Operand) (t : TypeId)
    (ho : o.op = .call { callee := .builtin .append, args := #[s, x], argTypes := #[t, t] })
    (base : Nat) (e : TypeId) (i : TypeInfo) (z : Value) (bytes : Nat) (ht : P.underlying t = some (.slice e)) (hi : P.info? e = some i) (hz : i.zero = some z)
    (hsize : i.size = 1) (hby : i.bytes = bytes) (hzs : z.cells.size = 1)
    (q : Option Addr) (k kc : Nat) (xs : List Value) (hs : a.eval s = .slice q k kc) (hown : w.ownsRow base e 1 (.slice q k kc) k xs)
    (p : Option Addr) (n c : Nat) (l : List ByteArray) (hx : a.eval x = .slice p n c) (hsv : SV w p n c l)
    (h63 : k + n ≤ maxLen) (hbytes : (k + n) * bytes ≤ 140737488355328) (hbase : base ≤ w.heap.size)
    (h : ∀ q' kc' w', w'.ownsRow base e 1 (.slice q' (k + n) kc') (k + n) (xs ++ l.map Value.string) → w.grownBy w' (Value.slice q k kc).ownBlock → wpList P ops Q rest (a.put o.dst (.slice q' (k + n) kc')) w') :
    wpList P ops Q (o :: rest) a w := by
  obtain ⟨hl, hnone, hc⟩ := hsv
  cases p with
  | none =>
    obtain ⟨rfl, rfl⟩ := hnone rfl
    have hl0 : l = [] := List.eq_nil_of_length_eq_zero hl
    subst hl0
    have hr := run_append_owned_none (P := P) w base t o.type e i 1 ht hi (.slice q k kc) k xs hown
    refine Go.Lib.wpList_append_run w hgd s x t t ho _ _ hs hx _ _ hr ?_
    exact h q kc w (by simpa using hown) (World.grownBy.refl _ _)
  | some ad =>
    have hnews : ∀ j u, (l.map Value.string)[j]? = some u → w.cell? (ad.add j) = some u := by
      intro j u hu
      obtain ⟨y, hy, rfl⟩ : ∃ y, l[j]? = some y ∧ Value.string y = u := by simpa using hu
      obtain ⟨g, hp, hcell⟩ := hc j y hy
      obtain rfl := Option.some.inj hp
      have hadd : (⟨g, 0, none⟩ : Addr).add j = ⟨g, j, none⟩ := by unfold Addr.add; split <;> simp_all
      rw [hadd]; exact hcell
    obtain ⟨v', w', hr, h2, h3, _⟩ := run_append_own (P := P) w base t o.type e i z 1 bytes ht hi hz hsize hby hzs (by decide) (.slice q k kc) k xs hown ad n c (l.map Value.string) (by simp [hl]) hnews (by intro u hu; obtain ⟨y, _, rfl⟩ := List.mem_map.1 hu; rfl) h63 hbytes hbase
    have hv : ∃ q' kc', v' = .slice q' (k + n) kc' := by
      rcases h2.2 with ⟨hv, hn⟩ | ⟨g, cap, cur, hv, _⟩
      · exact ⟨none, 0, by rw [hv, hn]⟩
      · exact ⟨_, _, hv⟩
    obtain ⟨q', kc', rfl⟩ := hv
    refine Go.Lib.wpList_append_run w hgd s x t t ho _ _ hs hx _ _ hr ?_
    exact h q' kc' w' h2 h3

theorem zeroCells_size (z : Array Value) (n : Nat) (hz : z.size = 1) : (Builtin.zeroCells z n).size = n := by
  have := size_zeroCells z n
  rw [hz] at this; simpa using this

end Go.Proofs.YtfogjomebcponaaDoor
