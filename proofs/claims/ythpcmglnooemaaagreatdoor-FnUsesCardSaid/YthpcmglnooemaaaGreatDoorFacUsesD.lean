/- Closed facts of the row: what the law reaches. -/
import Derived.Test.YthpcmglnooemaaaGreatDoorRows
import Derived.Test.YthpcmglnooemaaaGreatDoorChecked
import Derived.ProofKit
import Derived.Lay
import Derived.LaidMore
import Derived.SevenTiedAt
namespace Go.Proofs.YthpcmglnooemaaaGreatDoor
open Go.ChangeShapes Go.WideShapes Go.ChangeAt Go.RowKit

theorem fnUses_laid : laidOutB Tryz.pinned.checked.prog = true := by kernel_rfl
theorem fnUses_rowed : mapsRowed Tryz.pinned.checked.prog = true := by kernel_rfl
theorem fnUses_recurses : Tryz.pinned.checked.prog.recurses 9 = Rows.fnUsesRow.recurses := by kernel_rfl
theorem fnUses_unfollowed : Tryz.pinned.checked.prog.unfollowed 9 = Rows.fnUsesRow.unfollowed := by kernel_rfl
theorem fnUses_inPlace : Tryz.pinned.checked.prog.inPlace 9 = Rows.fnUsesRow.inPlace := by kernel_rfl
theorem fnUses_named : Tryz.pinned.checked.prog.varsNamed 9 = Rows.fnUsesRow.named := by kernel_rfl
theorem fnUses_keys : Tryz.pinned.checked.prog.plainKeys = Rows.fnUsesRow.plainKeys := by kernel_rfl
theorem fnUses_heard : Tryz.pinned.checked.prog.stopsHeard = true := by kernel_rfl
theorem fnUses_at : Tryz.pinned.checked.prog.funcNamed "loop.example/pushvalue/laws.FnUses" = some 9 := by kernel_rfl
theorem fnUses_looks : Tryz.pinned.checked.prog.looks [] = false := by kernel_rfl

end Go.Proofs.YthpcmglnooemaaaGreatDoor
