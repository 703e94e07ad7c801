/- The name translation of a source type, plainly. -/
import Derived.Test.YtlggbhakkhecmaaSrcP
namespace Go.Proofs.Ytlggbhakkhecmaa
open Go.RowKit

/-- The name translation of a source type. -/
def STy.byn : STy → Tree
  | .bit => .node [.atom ⟨#[102]⟩, .atom ⟨#[98]⟩]
  | .fn a b => .node [.atom ⟨#[62]⟩, .node [.atom ⟨#[117]⟩, a.byn], b.byn]
  | .pair a b => .node [.atom ⟨#[38]⟩, a.byn, b.byn]
theorem byn_len (s : STy) : s.byn.write.length ≤ 13 * s.n := by
  induction s with
  | bit => simp [STy.byn, Tree.write, Tree.writes, STy.n]
  | fn a b iha ihb => simp [STy.byn, Tree.write, Tree.writes, STy.n]; omega
  | pair a b iha ihb => simp [STy.byn, Tree.write, Tree.writes, STy.n]; omega
end Go.Proofs.Ytlggbhakkhecmaa
