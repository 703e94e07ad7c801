/- Closed facts of the row: what the law reaches. -/
import Derived.Test.YtfogjomebcponaaGreatDoorRows
import Derived.Test.YtfogjomebcponaaGreatDoorChecked
import Derived.ProofKit
import Derived.Lay
import Derived.LaidMore
import Derived.SevenTiedAt
namespace Go.Proofs.YtfogjomebcponaaGreatDoor
open Go.ChangeShapes Go.WideShapes Go.ChangeAt Go.RowKit

theorem fnExactTermFault_laid : laidOutB Tryz.pinned.checked.prog = true := by kernel_rfl
theorem fnExactTermFault_rowed : mapsRowed Tryz.pinned.checked.prog = true := by kernel_rfl
theorem fnExactTermFault_recurses : Tryz.pinned.checked.prog.recurses 5 = Rows.fnExactTermFaultRow.recurses := by kernel_rfl
theorem fnExactTermFault_unfollowed : Tryz.pinned.checked.prog.unfollowed 5 = Rows.fnExactTermFaultRow.unfollowed := by kernel_rfl
theorem fnExactTermFault_inPlace : Tryz.pinned.checked.prog.inPlace 5 = Rows.fnExactTermFaultRow.inPlace := by kernel_rfl
theorem fnExactTermFault_named : Tryz.pinned.checked.prog.varsNamed 5 = Rows.fnExactTermFaultRow.named := by kernel_rfl
theorem fnExactTermFault_keys : Tryz.pinned.checked.prog.plainKeys = Rows.fnExactTermFaultRow.plainKeys := by kernel_rfl
theorem fnExactTermFault_heard : Tryz.pinned.checked.prog.stopsHeard = true := by kernel_rfl
theorem fnExactTermFault_at : Tryz.pinned.checked.prog.funcNamed "loop.example/pushvalue/laws.FnExactTermFault" = some 5 := by kernel_rfl
theorem fnExactTermFault_looks : Tryz.pinned.checked.prog.looks [] = true := by kernel_rfl

end Go.Proofs.YtfogjomebcponaaGreatDoor
