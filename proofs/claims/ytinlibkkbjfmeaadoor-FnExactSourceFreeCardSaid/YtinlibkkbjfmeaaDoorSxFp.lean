/- The names that stand free in a source expression, plainly. -/
import Derived.Test.YtinlibkkbjfmeaaDoorSxP
namespace Go.Proofs.YtinlibkkbjfmeaaDoor
open Go.RowKit

/-- The free name that an atom is. -/
def atF (bd : List ByteArray) (a : ByteArray) : List ByteArray := if nameB a.toList = true ∧ hasB bd a.toList = false then [a] else []
/-- The names that stand free, where some are bound. -/
def Sx.free : Sx → List ByteArray → List ByteArray
  | .name a, bd => atF bd a
  | .bit a, bd => atF bd a
  | .lam x _ e, bd => e.free (bd ++ [x])
  | .app d e, bd => d.free bd ++ e.free bd
  | .iff d e g, bd => d.free bd ++ (e.free bd ++ g.free bd)
  | .pair d e, bd => d.free bd ++ e.free bd
  | .fst e, bd => e.free bd
  | .snd e, bd => e.free bd
  | .get, _ => []
  | .put e, bd => e.free bd
  | .fail _, _ => []
theorem free7_le (e : Sx) : ∀ bd, (e.free bd).length ≤ e.tree.wt := by
  induction e with
  | name a => intro bd; simp only [Sx.free, atF, Sx.tree, Tree.wt]; split <;> simp
  | bit a => intro bd; simp only [Sx.free, atF, Sx.tree, Tree.wt]; split <;> simp
  | lam x s e ih => intro bd; have := ih (bd ++ [x]); simp only [Sx.free, Sx.tree, Tree.wt, Tree.wts]; omega
  | app d e ihd ihe => intro bd; have := ihd bd; have := ihe bd; simp only [Sx.free, Sx.tree, Tree.wt, Tree.wts, List.length_append]; omega
  | iff d e g ihd ihe ihg => intro bd; have := ihd bd; have := ihe bd; have := ihg bd; simp only [Sx.free, Sx.tree, Tree.wt, Tree.wts, List.length_append]; omega
  | pair d e ihd ihe => intro bd; have := ihd bd; have := ihe bd; simp only [Sx.free, Sx.tree, Tree.wt, Tree.wts, List.length_append]; omega
  | fst e ih => intro bd; have := ih bd; simp only [Sx.free, Sx.tree, Tree.wt, Tree.wts]; omega
  | snd e ih => intro bd; have := ih bd; simp only [Sx.free, Sx.tree, Tree.wt, Tree.wts]; omega
  | get => intro bd; simp [Sx.free]
  | put e ih => intro bd; have := ih bd; simp only [Sx.free, Sx.tree, Tree.wt, Tree.wts]; omega
  | fail s => intro bd; simp [Sx.free]

end Go.Proofs.YtinlibkkbjfmeaaDoor
