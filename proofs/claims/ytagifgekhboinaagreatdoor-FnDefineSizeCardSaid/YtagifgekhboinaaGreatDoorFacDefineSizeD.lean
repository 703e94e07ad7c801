/- Closed facts of the row: what the law reaches. -/
import Derived.Test.YtagifgekhboinaaGreatDoorRows
import Derived.Test.YtagifgekhboinaaGreatDoorChecked
import Derived.ProofKit
import Derived.Lay
import Derived.LaidMore
import Derived.SevenTiedAt
namespace Go.Proofs.YtagifgekhboinaaGreatDoor
open Go.ChangeShapes Go.WideShapes Go.ChangeAt Go.RowKit

theorem fnDefineSize_laid : laidOutB Tryz.pinned.checked.prog = true := by kernel_rfl
theorem fnDefineSize_rowed : mapsRowed Tryz.pinned.checked.prog = true := by kernel_rfl
theorem fnDefineSize_recurses : Tryz.pinned.checked.prog.recurses 4 = Rows.fnDefineSizeRow.recurses := by kernel_rfl
theorem fnDefineSize_unfollowed : Tryz.pinned.checked.prog.unfollowed 4 = Rows.fnDefineSizeRow.unfollowed := by kernel_rfl
theorem fnDefineSize_inPlace : Tryz.pinned.checked.prog.inPlace 4 = Rows.fnDefineSizeRow.inPlace := by kernel_rfl
theorem fnDefineSize_named : Tryz.pinned.checked.prog.varsNamed 4 = Rows.fnDefineSizeRow.named := by kernel_rfl
theorem fnDefineSize_keys : Tryz.pinned.checked.prog.plainKeys = Rows.fnDefineSizeRow.plainKeys := by kernel_rfl
theorem fnDefineSize_heard : Tryz.pinned.checked.prog.stopsHeard = true := by kernel_rfl
theorem fnDefineSize_at : Tryz.pinned.checked.prog.funcNamed "loop.example/pushvalue/laws.FnDefineSize" = some 4 := by kernel_rfl
theorem fnDefineSize_looks : Tryz.pinned.checked.prog.looks [] = true := by kernel_rfl

end Go.Proofs.YtagifgekhboinaaGreatDoor
