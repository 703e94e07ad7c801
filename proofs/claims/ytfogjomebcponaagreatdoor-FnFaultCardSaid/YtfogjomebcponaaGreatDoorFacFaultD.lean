/- Closed facts of the row: what the law reaches. -/
import Derived.Test.YtfogjomebcponaaGreatDoorRows
import Derived.Test.YtfogjomebcponaaGreatDoorChecked
import Derived.ProofKit
import Derived.Lay
import Derived.LaidMore
import Derived.SevenTiedAt
namespace Go.Proofs.YtfogjomebcponaaGreatDoor
open Go.ChangeShapes Go.WideShapes Go.ChangeAt Go.RowKit
theorem fnFault_laid : laidOutB Tryz.pinned.checked.prog = true := by kernel_rfl
theorem fnFault_rowed : mapsRowed Tryz.pinned.checked.prog = true := by kernel_rfl
theorem fnFault_recurses : Tryz.pinned.checked.prog.recurses 6 = Rows.fnFaultRow.recurses := by kernel_rfl
theorem fnFault_unfollowed : Tryz.pinned.checked.prog.unfollowed 6 = Rows.fnFaultRow.unfollowed := by kernel_rfl
theorem fnFault_inPlace : Tryz.pinned.checked.prog.inPlace 6 = Rows.fnFaultRow.inPlace := by kernel_rfl
theorem fnFault_named : Tryz.pinned.checked.prog.varsNamed 6 = Rows.fnFaultRow.named := by kernel_rfl
theorem fnFault_keys : Tryz.pinned.checked.prog.plainKeys = Rows.fnFaultRow.plainKeys := by kernel_rfl
theorem fnFault_heard : Tryz.pinned.checked.prog.stopsHeard = true := by kernel_rfl
theorem fnFault_at : Tryz.pinned.checked.prog.funcNamed "loop.example/pushvalue/laws.FnFault" = some 6 := by kernel_rfl
theorem fnFault_looks : Tryz.pinned.checked.prog.looks [] = true := by kernel_rfl
end Go.Proofs.YtfogjomebcponaaGreatDoor
