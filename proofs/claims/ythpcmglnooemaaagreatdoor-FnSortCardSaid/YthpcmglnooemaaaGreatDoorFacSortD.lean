/- Closed facts of the row: what the law reaches. -/
import Derived.Test.YthpcmglnooemaaaGreatDoorRows
import Derived.Test.YthpcmglnooemaaaGreatDoorChecked
import Derived.ProofKit
import Derived.Lay
import Derived.LaidMore
import Derived.SevenTiedAt
namespace Go.Proofs.YthpcmglnooemaaaGreatDoor
open Go.ChangeShapes Go.WideShapes Go.ChangeAt Go.RowKit

theorem fnSort_laid : laidOutB Tryz.pinned.checked.prog = true := by kernel_rfl
theorem fnSort_rowed : mapsRowed Tryz.pinned.checked.prog = true := by kernel_rfl
theorem fnSort_recurses : Tryz.pinned.checked.prog.recurses 3 = Rows.fnSortRow.recurses := by kernel_rfl
theorem fnSort_unfollowed : Tryz.pinned.checked.prog.unfollowed 3 = Rows.fnSortRow.unfollowed := by kernel_rfl
theorem fnSort_inPlace : Tryz.pinned.checked.prog.inPlace 3 = Rows.fnSortRow.inPlace := by kernel_rfl
theorem fnSort_named : Tryz.pinned.checked.prog.varsNamed 3 = Rows.fnSortRow.named := by kernel_rfl
theorem fnSort_keys : Tryz.pinned.checked.prog.plainKeys = Rows.fnSortRow.plainKeys := by kernel_rfl
theorem fnSort_heard : Tryz.pinned.checked.prog.stopsHeard = true := by kernel_rfl
theorem fnSort_at : Tryz.pinned.checked.prog.funcNamed "loop.example/pushvalue/laws.FnSort" = some 3 := by kernel_rfl
theorem fnSort_looks : Tryz.pinned.checked.prog.looks [] = false := by kernel_rfl

end Go.Proofs.YthpcmglnooemaaaGreatDoor
