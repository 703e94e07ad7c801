/- Closed facts of the row: what the law reaches. -/
import Derived.Test.YthpcmglnooemaaaGreatDoorRows
import Derived.Test.YthpcmglnooemaaaGreatDoorChecked
import Derived.ProofKit
import Derived.Lay
import Derived.LaidMore
import Derived.SevenTiedAt
namespace Go.Proofs.YthpcmglnooemaaaGreatDoor
open Go.ChangeShapes Go.WideShapes Go.ChangeAt Go.RowKit

theorem fnFree_laid : laidOutB Tryz.pinned.checked.prog = true := by kernel_rfl
theorem fnFree_rowed : mapsRowed Tryz.pinned.checked.prog = true := by kernel_rfl
theorem fnFree_recurses : Tryz.pinned.checked.prog.recurses 6 = Rows.fnFreeRow.recurses := by kernel_rfl
theorem fnFree_unfollowed : Tryz.pinned.checked.prog.unfollowed 6 = Rows.fnFreeRow.unfollowed := by kernel_rfl
theorem fnFree_inPlace : Tryz.pinned.checked.prog.inPlace 6 = Rows.fnFreeRow.inPlace := by kernel_rfl
theorem fnFree_named : Tryz.pinned.checked.prog.varsNamed 6 = Rows.fnFreeRow.named := by kernel_rfl
theorem fnFree_keys : Tryz.pinned.checked.prog.plainKeys = Rows.fnFreeRow.plainKeys := by kernel_rfl
theorem fnFree_heard : Tryz.pinned.checked.prog.stopsHeard = true := by kernel_rfl
theorem fnFree_at : Tryz.pinned.checked.prog.funcNamed "loop.example/pushvalue/laws.FnFree" = some 6 := by kernel_rfl
theorem fnFree_looks : Tryz.pinned.checked.prog.looks [] = false := by kernel_rfl

end Go.Proofs.YthpcmglnooemaaaGreatDoor
