/- Closed facts of the row: what the law reaches. -/
import Derived.Test.YtagifgekhboinaaGreatDoorRows
import Derived.Test.YtagifgekhboinaaGreatDoorChecked
import Derived.ProofKit
import Derived.Lay
import Derived.LaidMore
import Derived.SevenTiedAt
namespace Go.Proofs.YtagifgekhboinaaGreatDoor
open Go.ChangeShapes Go.WideShapes Go.ChangeAt Go.RowKit

theorem fnExactDefineSize_laid : laidOutB Tryz.pinned.checked.prog = true := by kernel_rfl
theorem fnExactDefineSize_rowed : mapsRowed Tryz.pinned.checked.prog = true := by kernel_rfl
theorem fnExactDefineSize_recurses : Tryz.pinned.checked.prog.recurses 3 = Rows.fnExactDefineSizeRow.recurses := by kernel_rfl
theorem fnExactDefineSize_unfollowed : Tryz.pinned.checked.prog.unfollowed 3 = Rows.fnExactDefineSizeRow.unfollowed := by kernel_rfl
theorem fnExactDefineSize_inPlace : Tryz.pinned.checked.prog.inPlace 3 = Rows.fnExactDefineSizeRow.inPlace := by kernel_rfl
theorem fnExactDefineSize_named : Tryz.pinned.checked.prog.varsNamed 3 = Rows.fnExactDefineSizeRow.named := by kernel_rfl
theorem fnExactDefineSize_keys : Tryz.pinned.checked.prog.plainKeys = Rows.fnExactDefineSizeRow.plainKeys := by kernel_rfl
theorem fnExactDefineSize_heard : Tryz.pinned.checked.prog.stopsHeard = true := by kernel_rfl
theorem fnExactDefineSize_at : Tryz.pinned.checked.prog.funcNamed "loop.example/pushvalue/laws.FnExactDefineSize" = some 3 := by kernel_rfl
theorem fnExactDefineSize_looks : Tryz.pinned.checked.prog.looks [] = true := by kernel_rfl

end Go.Proofs.YtagifgekhboinaaGreatDoor
