/- Closed facts of the row: what the law reaches. -/
import Derived.Test.YtfogjomebcponaaGreatDoorRows
import Derived.Test.YtfogjomebcponaaGreatDoorChecked
import Derived.ProofKit
import Derived.Lay
import Derived.LaidMore
import Derived.SevenTiedAt
namespace Go.Proofs.YtfogjomebcponaaGreatDoor
open Go.ChangeShapes Go.WideShapes Go.ChangeAt Go.RowKit

theorem fnExactTermType_laid : laidOutB Tryz.pinned.checked.prog = true := by kernel_rfl
theorem fnExactTermType_rowed : mapsRowed Tryz.pinned.checked.prog = true := by kernel_rfl
theorem fnExactTermType_recurses : Tryz.pinned.checked.prog.recurses 3 = Rows.fnExactTermTypeRow.recurses := by kernel_rfl
theorem fnExactTermType_unfollowed : Tryz.pinned.checked.prog.unfollowed 3 = Rows.fnExactTermTypeRow.unfollowed := by kernel_rfl
theorem fnExactTermType_inPlace : Tryz.pinned.checked.prog.inPlace 3 = Rows.fnExactTermTypeRow.inPlace := by kernel_rfl
theorem fnExactTermType_named : Tryz.pinned.checked.prog.varsNamed 3 = Rows.fnExactTermTypeRow.named := by kernel_rfl
theorem fnExactTermType_keys : Tryz.pinned.checked.prog.plainKeys = Rows.fnExactTermTypeRow.plainKeys := by kernel_rfl
theorem fnExactTermType_heard : Tryz.pinned.checked.prog.stopsHeard = true := by kernel_rfl
theorem fnExactTermType_at : Tryz.pinned.checked.prog.funcNamed "loop.example/pushvalue/laws.FnExactTermType" = some 3 := by kernel_rfl
theorem fnExactTermType_looks : Tryz.pinned.checked.prog.looks [] = true := by kernel_rfl

end Go.Proofs.YtfogjomebcponaaGreatDoor
