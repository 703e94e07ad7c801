/- Closed facts of the row: what the law reaches. -/
import Derived.Test.YtnmbkaemdblhpaaGreatDoorRows
import Derived.Test.YtnmbkaemdblhpaaGreatDoorChecked
import Derived.ProofKit
import Derived.Lay
import Derived.LaidMore
import Derived.SevenTiedAt
namespace Go.Proofs.YtnmbkaemdblhpaaGreatDoor
open Go.ChangeShapes Go.WideShapes Go.ChangeAt Go.RowKit

theorem fnExactElementText_laid : laidOutB Tryz.pinned.checked.prog = true := by kernel_rfl
theorem fnExactElementText_rowed : mapsRowed Tryz.pinned.checked.prog = true := by kernel_rfl
theorem fnExactElementText_recurses : Tryz.pinned.checked.prog.recurses 3 = Rows.fnExactElementTextRow.recurses := by kernel_rfl
theorem fnExactElementText_unfollowed : Tryz.pinned.checked.prog.unfollowed 3 = Rows.fnExactElementTextRow.unfollowed := by kernel_rfl
theorem fnExactElementText_inPlace : Tryz.pinned.checked.prog.inPlace 3 = Rows.fnExactElementTextRow.inPlace := by kernel_rfl
theorem fnExactElementText_named : Tryz.pinned.checked.prog.varsNamed 3 = Rows.fnExactElementTextRow.named := by kernel_rfl
theorem fnExactElementText_keys : Tryz.pinned.checked.prog.plainKeys = Rows.fnExactElementTextRow.plainKeys := by kernel_rfl
theorem fnExactElementText_heard : Tryz.pinned.checked.prog.stopsHeard = true := by kernel_rfl
theorem fnExactElementText_at : Tryz.pinned.checked.prog.funcNamed "loop.example/pushvalue/laws.FnExactElementText" = some 3 := by kernel_rfl
theorem fnExactElementText_looks : Tryz.pinned.checked.prog.looks [] = true := by kernel_rfl

end Go.Proofs.YtnmbkaemdblhpaaGreatDoor
