/- Closed facts of the row: what the law reaches. -/
import Derived.Test.YthpcmglnooemaaaGreatDoorRows
import Derived.Test.YthpcmglnooemaaaGreatDoorChecked
import Derived.ProofKit
import Derived.Lay
import Derived.LaidMore
import Derived.SevenTiedAt
namespace Go.Proofs.YthpcmglnooemaaaGreatDoor
open Go.ChangeShapes Go.WideShapes Go.ChangeAt Go.RowKit

theorem fnExactTermPut_laid : laidOutB Tryz.pinned.checked.prog = true := by kernel_rfl
theorem fnExactTermPut_rowed : mapsRowed Tryz.pinned.checked.prog = true := by kernel_rfl
theorem fnExactTermPut_recurses : Tryz.pinned.checked.prog.recurses 10 = Rows.fnExactTermPutRow.recurses := by kernel_rfl
theorem fnExactTermPut_unfollowed : Tryz.pinned.checked.prog.unfollowed 10 = Rows.fnExactTermPutRow.unfollowed := by kernel_rfl
theorem fnExactTermPut_inPlace : Tryz.pinned.checked.prog.inPlace 10 = Rows.fnExactTermPutRow.inPlace := by kernel_rfl
theorem fnExactTermPut_named : Tryz.pinned.checked.prog.varsNamed 10 = Rows.fnExactTermPutRow.named := by kernel_rfl
theorem fnExactTermPut_keys : Tryz.pinned.checked.prog.plainKeys = Rows.fnExactTermPutRow.plainKeys := by kernel_rfl
theorem fnExactTermPut_heard : Tryz.pinned.checked.prog.stopsHeard = true := by kernel_rfl
theorem fnExactTermPut_at : Tryz.pinned.checked.prog.funcNamed "loop.example/pushvalue/laws.FnExactTermPut" = some 10 := by kernel_rfl
theorem fnExactTermPut_looks : Tryz.pinned.checked.prog.looks [] = false := by kernel_rfl

end Go.Proofs.YthpcmglnooemaaaGreatDoor
