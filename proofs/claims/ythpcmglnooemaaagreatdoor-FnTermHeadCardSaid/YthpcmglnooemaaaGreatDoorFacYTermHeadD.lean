/- Closed facts of the row: what the law reaches. -/
import Derived.Test.YthpcmglnooemaaaGreatDoorRows
import Derived.Test.YthpcmglnooemaaaGreatDoorChecked
import Derived.ProofKit
import Derived.Lay
import Derived.LaidMore
import Derived.SevenTiedAt
namespace Go.Proofs.YthpcmglnooemaaaGreatDoor
open Go.ChangeShapes Go.WideShapes Go.ChangeAt Go.RowKit

theorem fnTermHead_laid : laidOutB Tryz.pinned.checked.prog = true := by kernel_rfl
theorem fnTermHead_rowed : mapsRowed Tryz.pinned.checked.prog = true := by kernel_rfl
theorem fnTermHead_recurses : Tryz.pinned.checked.prog.recurses 4 = Rows.fnTermHeadRow.recurses := by kernel_rfl
theorem fnTermHead_unfollowed : Tryz.pinned.checked.prog.unfollowed 4 = Rows.fnTermHeadRow.unfollowed := by kernel_rfl
theorem fnTermHead_inPlace : Tryz.pinned.checked.prog.inPlace 4 = Rows.fnTermHeadRow.inPlace := by kernel_rfl
theorem fnTermHead_named : Tryz.pinned.checked.prog.varsNamed 4 = Rows.fnTermHeadRow.named := by kernel_rfl
theorem fnTermHead_keys : Tryz.pinned.checked.prog.plainKeys = Rows.fnTermHeadRow.plainKeys := by kernel_rfl
theorem fnTermHead_heard : Tryz.pinned.checked.prog.stopsHeard = true := by kernel_rfl
theorem fnTermHead_at : Tryz.pinned.checked.prog.funcNamed "loop.example/pushvalue/laws.FnTermHead" = some 4 := by kernel_rfl
theorem fnTermHead_looks : Tryz.pinned.checked.prog.looks [] = false := by kernel_rfl

end Go.Proofs.YthpcmglnooemaaaGreatDoor
