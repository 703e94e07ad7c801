/- Closed facts of the row: what the law reaches. -/
import Derived.Test.YthpcmglnooemaaaGreatDoorRows
import Derived.Test.YthpcmglnooemaaaGreatDoorChecked
import Derived.ProofKit
import Derived.Lay
import Derived.LaidMore
import Derived.SevenTiedAt
namespace Go.Proofs.YthpcmglnooemaaaGreatDoor
open Go.ChangeShapes Go.WideShapes Go.ChangeAt Go.RowKit

theorem fnExactTermKids_laid : laidOutB Tryz.pinned.checked.prog = true := by kernel_rfl
theorem fnExactTermKids_rowed : mapsRowed Tryz.pinned.checked.prog = true := by kernel_rfl
theorem fnExactTermKids_recurses : Tryz.pinned.checked.prog.recurses 11 = Rows.fnExactTermKidsRow.recurses := by kernel_rfl
theorem fnExactTermKids_unfollowed : Tryz.pinned.checked.prog.unfollowed 11 = Rows.fnExactTermKidsRow.unfollowed := by kernel_rfl
theorem fnExactTermKids_inPlace : Tryz.pinned.checked.prog.inPlace 11 = Rows.fnExactTermKidsRow.inPlace := by kernel_rfl
theorem fnExactTermKids_named : Tryz.pinned.checked.prog.varsNamed 11 = Rows.fnExactTermKidsRow.named := by kernel_rfl
theorem fnExactTermKids_keys : Tryz.pinned.checked.prog.plainKeys = Rows.fnExactTermKidsRow.plainKeys := by kernel_rfl
theorem fnExactTermKids_heard : Tryz.pinned.checked.prog.stopsHeard = true := by kernel_rfl
theorem fnExactTermKids_at : Tryz.pinned.checked.prog.funcNamed "loop.example/pushvalue/laws.FnExactTermKids" = some 11 := by kernel_rfl
theorem fnExactTermKids_looks : Tryz.pinned.checked.prog.looks [] = false := by kernel_rfl

end Go.Proofs.YthpcmglnooemaaaGreatDoor
