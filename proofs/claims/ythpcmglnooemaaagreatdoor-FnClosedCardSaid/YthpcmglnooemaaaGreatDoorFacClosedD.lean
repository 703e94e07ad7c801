/- Closed facts of the row: what the law reaches. -/
import Derived.Test.YthpcmglnooemaaaGreatDoorRows
import Derived.Test.YthpcmglnooemaaaGreatDoorChecked
import Derived.ProofKit
import Derived.Lay
import Derived.LaidMore
import Derived.SevenTiedAt
namespace Go.Proofs.YthpcmglnooemaaaGreatDoor
open Go.ChangeShapes Go.WideShapes Go.ChangeAt Go.RowKit

theorem fnClosed_laid : laidOutB Tryz.pinned.checked.prog = true := by kernel_rfl
theorem fnClosed_rowed : mapsRowed Tryz.pinned.checked.prog = true := by kernel_rfl
theorem fnClosed_recurses : Tryz.pinned.checked.prog.recurses 7 = Rows.fnClosedRow.recurses := by kernel_rfl
theorem fnClosed_unfollowed : Tryz.pinned.checked.prog.unfollowed 7 = Rows.fnClosedRow.unfollowed := by kernel_rfl
theorem fnClosed_inPlace : Tryz.pinned.checked.prog.inPlace 7 = Rows.fnClosedRow.inPlace := by kernel_rfl
theorem fnClosed_named : Tryz.pinned.checked.prog.varsNamed 7 = Rows.fnClosedRow.named := by kernel_rfl
theorem fnClosed_keys : Tryz.pinned.checked.prog.plainKeys = Rows.fnClosedRow.plainKeys := by kernel_rfl
theorem fnClosed_heard : Tryz.pinned.checked.prog.stopsHeard = true := by kernel_rfl
theorem fnClosed_at : Tryz.pinned.checked.prog.funcNamed "loop.example/pushvalue/laws.FnClosed" = some 7 := by kernel_rfl
theorem fnClosed_looks : Tryz.pinned.checked.prog.looks [] = false := by kernel_rfl

end Go.Proofs.YthpcmglnooemaaaGreatDoor
