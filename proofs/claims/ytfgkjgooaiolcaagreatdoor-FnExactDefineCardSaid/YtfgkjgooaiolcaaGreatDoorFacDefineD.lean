/- Closed facts of the row: what the law reaches. -/
import Derived.Test.YtfgkjgooaiolcaaGreatDoorRows
import Derived.Test.YtfgkjgooaiolcaaGreatDoorChecked
import Derived.ProofKit
import Derived.Lay
import Derived.LaidMore
import Derived.SevenTiedAt
namespace Go.Proofs.YtfgkjgooaiolcaaGreatDoor
open Go.ChangeShapes Go.WideShapes Go.ChangeAt Go.RowKit

theorem fnExactDefine_laid : laidOutB Tryz.pinned.checked.prog = true := by kernel_rfl
theorem fnExactDefine_rowed : mapsRowed Tryz.pinned.checked.prog = true := by kernel_rfl
theorem fnExactDefine_recurses : Tryz.pinned.checked.prog.recurses 4 = Rows.fnExactDefineRow.recurses := by kernel_rfl
theorem fnExactDefine_unfollowed : Tryz.pinned.checked.prog.unfollowed 4 = Rows.fnExactDefineRow.unfollowed := by kernel_rfl
theorem fnExactDefine_inPlace : Tryz.pinned.checked.prog.inPlace 4 = Rows.fnExactDefineRow.inPlace := by kernel_rfl
theorem fnExactDefine_named : Tryz.pinned.checked.prog.varsNamed 4 = Rows.fnExactDefineRow.named := by kernel_rfl
theorem fnExactDefine_keys : Tryz.pinned.checked.prog.plainKeys = Rows.fnExactDefineRow.plainKeys := by kernel_rfl
theorem fnExactDefine_heard : Tryz.pinned.checked.prog.stopsHeard = true := by kernel_rfl
theorem fnExactDefine_at : Tryz.pinned.checked.prog.funcNamed "loop.example/pushvalue/laws.FnExactDefine" = some 4 := by kernel_rfl
theorem fnExactDefine_looks : Tryz.pinned.checked.prog.looks [] = true := by kernel_rfl

end Go.Proofs.YtfgkjgooaiolcaaGreatDoor
