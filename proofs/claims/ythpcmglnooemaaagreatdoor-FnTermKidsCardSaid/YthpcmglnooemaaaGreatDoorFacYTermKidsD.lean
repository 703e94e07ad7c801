/- Closed facts of the row: what the law reaches. -/
import Derived.Test.YthpcmglnooemaaaGreatDoorRows
import Derived.Test.YthpcmglnooemaaaGreatDoorChecked
import Derived.ProofKit
import Derived.Lay
import Derived.LaidMore
import Derived.SevenTiedAt
namespace Go.Proofs.YthpcmglnooemaaaGreatDoor
open Go.ChangeShapes Go.WideShapes Go.ChangeAt Go.RowKit

theorem fnTermKids_laid : laidOutB Tryz.pinned.checked.prog = true := by kernel_rfl
theorem fnTermKids_rowed : mapsRowed Tryz.pinned.checked.prog = true := by kernel_rfl
theorem fnTermKids_recurses : Tryz.pinned.checked.prog.recurses 5 = Rows.fnTermKidsRow.recurses := by kernel_rfl
theorem fnTermKids_unfollowed : Tryz.pinned.checked.prog.unfollowed 5 = Rows.fnTermKidsRow.unfollowed := by kernel_rfl
theorem fnTermKids_inPlace : Tryz.pinned.checked.prog.inPlace 5 = Rows.fnTermKidsRow.inPlace := by kernel_rfl
theorem fnTermKids_named : Tryz.pinned.checked.prog.varsNamed 5 = Rows.fnTermKidsRow.named := by kernel_rfl
theorem fnTermKids_keys : Tryz.pinned.checked.prog.plainKeys = Rows.fnTermKidsRow.plainKeys := by kernel_rfl
theorem fnTermKids_heard : Tryz.pinned.checked.prog.stopsHeard = true := by kernel_rfl
theorem fnTermKids_at : Tryz.pinned.checked.prog.funcNamed "loop.example/pushvalue/laws.FnTermKids" = some 5 := by kernel_rfl
theorem fnTermKids_looks : Tryz.pinned.checked.prog.looks [] = false := by kernel_rfl

end Go.Proofs.YthpcmglnooemaaaGreatDoor
