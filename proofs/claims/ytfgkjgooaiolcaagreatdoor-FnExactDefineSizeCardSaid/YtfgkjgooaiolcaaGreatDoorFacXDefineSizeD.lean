/- Closed facts of the row: what the law reaches. -/
import Derived.Test.YtfgkjgooaiolcaaGreatDoorRows
import Derived.Test.YtfgkjgooaiolcaaGreatDoorChecked
import Derived.ProofKit
import Derived.Lay
import Derived.LaidMore
import Derived.SevenTiedAt
namespace Go.Proofs.YtfgkjgooaiolcaaGreatDoor
open Go.ChangeShapes Go.WideShapes Go.ChangeAt Go.RowKit

theorem fnExactDefineSize_laid : laidOutB Tryz.pinned.checked.prog = true := by kernel_rfl
theorem fnExactDefineSize_rowed : mapsRowed Tryz.pinned.checked.prog = true := by kernel_rfl
theorem fnExactDefineSize_recurses : Tryz.pinned.checked.prog.recurses 5 = Rows.fnExactDefineSizeRow.recurses := by kernel_rfl
theorem fnExactDefineSize_unfollowed : Tryz.pinned.checked.prog.unfollowed 5 = Rows.fnExactDefineSizeRow.unfollowed := by kernel_rfl
theorem fnExactDefineSize_inPlace : Tryz.pinned.checked.prog.inPlace 5 = Rows.fnExactDefineSizeRow.inPlace := by kernel_rfl
theorem fnExactDefineSize_named : Tryz.pinned.checked.prog.varsNamed 5 = Rows.fnExactDefineSizeRow.named := by kernel_rfl
theorem fnExactDefineSize_keys : Tryz.pinned.checked.prog.plainKeys = Rows.fnExactDefineSizeRow.plainKeys := by kernel_rfl
theorem fnExactDefineSize_heard : Tryz.pinned.checked.prog.stopsHeard = true := by kernel_rfl
theorem fnExactDefineSize_at : Tryz.pinned.checked.prog.funcNamed "loop.example/pushvalue/laws.FnExactDefineSize" = some 5 := by kernel_rfl
theorem fnExactDefineSize_looks : Tryz.pinned.checked.prog.looks [] = true := by kernel_rfl

end Go.Proofs.YtfgkjgooaiolcaaGreatDoor
