/- Closed facts of the row: what the law reaches. -/
import Derived.Test.YtmjhfekcbagibaaGreatDoorRows
import Derived.Test.YtmjhfekcbagibaaGreatDoorChecked
import Derived.ProofKit
import Derived.Lay
import Derived.LaidMore
import Derived.SevenTiedAt
namespace Go.Proofs.YtmjhfekcbagibaaGreatDoor
open Go.ChangeShapes Go.WideShapes Go.ChangeAt Go.RowKit

theorem fnExactEvalValue_laid : laidOutB Tryz.pinned.checked.prog = true := by kernel_rfl
theorem fnExactEvalValue_rowed : mapsRowed Tryz.pinned.checked.prog = true := by kernel_rfl
theorem fnExactEvalValue_recurses : Tryz.pinned.checked.prog.recurses 3 = Rows.fnExactEvalValueRow.recurses := by kernel_rfl
theorem fnExactEvalValue_unfollowed : Tryz.pinned.checked.prog.unfollowed 3 = Rows.fnExactEvalValueRow.unfollowed := by kernel_rfl
theorem fnExactEvalValue_inPlace : Tryz.pinned.checked.prog.inPlace 3 = Rows.fnExactEvalValueRow.inPlace := by kernel_rfl
theorem fnExactEvalValue_named : Tryz.pinned.checked.prog.varsNamed 3 = Rows.fnExactEvalValueRow.named := by kernel_rfl
theorem fnExactEvalValue_keys : Tryz.pinned.checked.prog.plainKeys = Rows.fnExactEvalValueRow.plainKeys := by kernel_rfl
theorem fnExactEvalValue_heard : Tryz.pinned.checked.prog.stopsHeard = true := by kernel_rfl
theorem fnExactEvalValue_at : Tryz.pinned.checked.prog.funcNamed "loop.example/pushvalue/laws.FnExactEvalValue" = some 3 := by kernel_rfl
theorem fnExactEvalValue_looks : Tryz.pinned.checked.prog.looks [] = true := by kernel_rfl

end Go.Proofs.YtmjhfekcbagibaaGreatDoor
