/- Closed facts of the row: what the law reaches. -/
import Derived.Test.YtocegmgdbmbkkaaGreatDoorRows
import Derived.Test.YtocegmgdbmbkkaaGreatDoorChecked
import Derived.ProofKit
import Derived.Lay
import Derived.LaidMore
import Derived.SevenTiedAt
namespace Go.Proofs.YtocegmgdbmbkkaaGreatDoor
open Go.ChangeShapes Go.WideShapes Go.ChangeAt Go.RowKit

theorem fnExactDefineSize_laid : laidOutB Tryz.pinned.checked.prog = true := by kernel_rfl
theorem fnExactDefineSize_rowed : mapsRowed Tryz.pinned.checked.prog = true := by kernel_rfl
theorem fnExactDefineSize_recurses : Tryz.pinned.checked.prog.recurses 4 = Rows.fnExactDefineSizeRow.recurses := by kernel_rfl
theorem fnExactDefineSize_unfollowed : Tryz.pinned.checked.prog.unfollowed 4 = Rows.fnExactDefineSizeRow.unfollowed := by kernel_rfl
theorem fnExactDefineSize_inPlace : Tryz.pinned.checked.prog.inPlace 4 = Rows.fnExactDefineSizeRow.inPlace := by kernel_rfl
theorem fnExactDefineSize_named : Tryz.pinned.checked.prog.varsNamed 4 = Rows.fnExactDefineSizeRow.named := by kernel_rfl
theorem fnExactDefineSize_keys : Tryz.pinned.checked.prog.plainKeys = Rows.fnExactDefineSizeRow.plainKeys := by kernel_rfl
theorem fnExactDefineSize_heard : Tryz.pinned.checked.prog.stopsHeard = true := by kernel_rfl
theorem fnExactDefineSize_at : Tryz.pinned.checked.prog.funcNamed "loop.example/pushvalue/laws.FnExactDefineSize" = some 4 := by kernel_rfl
theorem fnExactDefineSize_looks : Tryz.pinned.checked.prog.looks [] = true := by kernel_rfl

end Go.Proofs.YtocegmgdbmbkkaaGreatDoor
