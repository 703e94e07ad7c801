/- Closed facts of the row: what the law reaches. -/
import Derived.Test.YtfogjomebcponaaGreatDoorRows
import Derived.Test.YtfogjomebcponaaGreatDoorChecked
import Derived.ProofKit
import Derived.Lay
import Derived.LaidMore
import Derived.SevenTiedAt
namespace Go.Proofs.YtfogjomebcponaaGreatDoor
open Go.ChangeShapes Go.WideShapes Go.ChangeAt Go.RowKit

theorem fnExactTermTyped_laid : laidOutB Tryz.pinned.checked.prog = true := by kernel_rfl
theorem fnExactTermTyped_rowed : mapsRowed Tryz.pinned.checked.prog = true := by kernel_rfl
theorem fnExactTermTyped_recurses : Tryz.pinned.checked.prog.recurses 4 = Rows.fnExactTermTypedRow.recurses := by kernel_rfl
theorem fnExactTermTyped_unfollowed : Tryz.pinned.checked.prog.unfollowed 4 = Rows.fnExactTermTypedRow.unfollowed := by kernel_rfl
theorem fnExactTermTyped_inPlace : Tryz.pinned.checked.prog.inPlace 4 = Rows.fnExactTermTypedRow.inPlace := by kernel_rfl
theorem fnExactTermTyped_named : Tryz.pinned.checked.prog.varsNamed 4 = Rows.fnExactTermTypedRow.named := by kernel_rfl
theorem fnExactTermTyped_keys : Tryz.pinned.checked.prog.plainKeys = Rows.fnExactTermTypedRow.plainKeys := by kernel_rfl
theorem fnExactTermTyped_heard : Tryz.pinned.checked.prog.stopsHeard = true := by kernel_rfl
theorem fnExactTermTyped_at : Tryz.pinned.checked.prog.funcNamed "loop.example/pushvalue/laws.FnExactTermTyped" = some 4 := by kernel_rfl
theorem fnExactTermTyped_looks : Tryz.pinned.checked.prog.looks [] = true := by kernel_rfl

end Go.Proofs.YtfogjomebcponaaGreatDoor
