/- Closed facts of the row: what the law reaches. -/
import Derived.Test.YtiipofgnoabhoaaGreatDoorRows
import Derived.Test.YtiipofgnoabhoaaGreatDoorChecked
import Derived.ProofKit
import Derived.Lay
import Derived.LaidMore
import Derived.SevenTiedAt
namespace Go.Proofs.YtiipofgnoabhoaaGreatDoor
open Go.ChangeShapes Go.WideShapes Go.ChangeAt Go.RowKit

theorem fnExactStateStart_laid : laidOutB Tryz.pinned.checked.prog = true := by kernel_rfl
theorem fnExactStateStart_rowed : mapsRowed Tryz.pinned.checked.prog = true := by kernel_rfl
theorem fnExactStateStart_recurses : Tryz.pinned.checked.prog.recurses 7 = Rows.fnExactStateStartRow.recurses := by kernel_rfl
theorem fnExactStateStart_unfollowed : Tryz.pinned.checked.prog.unfollowed 7 = Rows.fnExactStateStartRow.unfollowed := by kernel_rfl
theorem fnExactStateStart_inPlace : Tryz.pinned.checked.prog.inPlace 7 = Rows.fnExactStateStartRow.inPlace := by kernel_rfl
theorem fnExactStateStart_named : Tryz.pinned.checked.prog.varsNamed 7 = Rows.fnExactStateStartRow.named := by kernel_rfl
theorem fnExactStateStart_keys : Tryz.pinned.checked.prog.plainKeys = Rows.fnExactStateStartRow.plainKeys := by kernel_rfl
theorem fnExactStateStart_heard : Tryz.pinned.checked.prog.stopsHeard = true := by kernel_rfl
theorem fnExactStateStart_at : Tryz.pinned.checked.prog.funcNamed "loop.example/pushvalue/laws.FnExactStateStart" = some 7 := by kernel_rfl
theorem fnExactStateStart_looks : Tryz.pinned.checked.prog.looks [] = true := by kernel_rfl

end Go.Proofs.YtiipofgnoabhoaaGreatDoor
