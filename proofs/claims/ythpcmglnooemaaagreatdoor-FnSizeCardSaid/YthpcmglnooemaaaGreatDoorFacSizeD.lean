/- Closed facts of the row: what the law reaches. -/
import Derived.Test.YthpcmglnooemaaaGreatDoorRows
import Derived.Test.YthpcmglnooemaaaGreatDoorChecked
import Derived.ProofKit
import Derived.Lay
import Derived.LaidMore
import Derived.SevenTiedAt
namespace Go.Proofs.YthpcmglnooemaaaGreatDoor
open Go.ChangeShapes Go.WideShapes Go.ChangeAt Go.RowKit

theorem fnSize_laid : laidOutB Tryz.pinned.checked.prog = true := by kernel_rfl
theorem fnSize_rowed : mapsRowed Tryz.pinned.checked.prog = true := by kernel_rfl
theorem fnSize_recurses : Tryz.pinned.checked.prog.recurses 8 = Rows.fnSizeRow.recurses := by kernel_rfl
theorem fnSize_unfollowed : Tryz.pinned.checked.prog.unfollowed 8 = Rows.fnSizeRow.unfollowed := by kernel_rfl
theorem fnSize_inPlace : Tryz.pinned.checked.prog.inPlace 8 = Rows.fnSizeRow.inPlace := by kernel_rfl
theorem fnSize_named : Tryz.pinned.checked.prog.varsNamed 8 = Rows.fnSizeRow.named := by kernel_rfl
theorem fnSize_keys : Tryz.pinned.checked.prog.plainKeys = Rows.fnSizeRow.plainKeys := by kernel_rfl
theorem fnSize_heard : Tryz.pinned.checked.prog.stopsHeard = true := by kernel_rfl
theorem fnSize_at : Tryz.pinned.checked.prog.funcNamed "loop.example/pushvalue/laws.FnSize" = some 8 := by kernel_rfl
theorem fnSize_looks : Tryz.pinned.checked.prog.looks [] = false := by kernel_rfl

end Go.Proofs.YthpcmglnooemaaaGreatDoor
