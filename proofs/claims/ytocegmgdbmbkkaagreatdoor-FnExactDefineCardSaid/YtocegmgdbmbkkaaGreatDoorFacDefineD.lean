/- Closed facts of the row: what the law reaches. -/
import Derived.Test.YtocegmgdbmbkkaaGreatDoorRows
import Derived.Test.YtocegmgdbmbkkaaGreatDoorChecked
import Derived.ProofKit
import Derived.Lay
import Derived.LaidMore
import Derived.SevenTiedAt
namespace Go.Proofs.YtocegmgdbmbkkaaGreatDoor
open Go.ChangeShapes Go.WideShapes Go.ChangeAt Go.RowKit

theorem fnExactDefine_laid : laidOutB Tryz.pinned.checked.prog = true := by kernel_rfl
theorem fnExactDefine_rowed : mapsRowed Tryz.pinned.checked.prog = true := by kernel_rfl
theorem fnExactDefine_recurses : Tryz.pinned.checked.prog.recurses 3 = Rows.fnExactDefineRow.recurses := by kernel_rfl
theorem fnExactDefine_unfollowed : Tryz.pinned.checked.prog.unfollowed 3 = Rows.fnExactDefineRow.unfollowed := by kernel_rfl
theorem fnExactDefine_inPlace : Tryz.pinned.checked.prog.inPlace 3 = Rows.fnExactDefineRow.inPlace := by kernel_rfl
theorem fnExactDefine_named : Tryz.pinned.checked.prog.varsNamed 3 = Rows.fnExactDefineRow.named := by kernel_rfl
theorem fnExactDefine_keys : Tryz.pinned.checked.prog.plainKeys = Rows.fnExactDefineRow.plainKeys := by kernel_rfl
theorem fnExactDefine_heard : Tryz.pinned.checked.prog.stopsHeard = true := by kernel_rfl
theorem fnExactDefine_at : Tryz.pinned.checked.prog.funcNamed "loop.example/pushvalue/laws.FnExactDefine" = some 3 := by kernel_rfl
theorem fnExactDefine_looks : Tryz.pinned.checked.prog.looks [] = true := by kernel_rfl

end Go.Proofs.YtocegmgdbmbkkaaGreatDoor
