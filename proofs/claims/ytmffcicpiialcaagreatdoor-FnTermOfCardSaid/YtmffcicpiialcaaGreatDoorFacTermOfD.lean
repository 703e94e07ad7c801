/- Closed facts of the row: what the law reaches. -/
import Derived.Test.YtmffcicpiialcaaGreatDoorRows
import Derived.Test.YtmffcicpiialcaaGreatDoorChecked
import Derived.ProofKit
import Derived.Lay
import Derived.LaidMore
import Derived.SevenTiedAt
namespace Go.Proofs.YtmffcicpiialcaaGreatDoor
open Go.ChangeShapes Go.WideShapes Go.ChangeAt Go.RowKit

theorem fnTermOf_laid : laidOutB Tryz.pinned.checked.prog = true := by kernel_rfl
theorem fnTermOf_rowed : mapsRowed Tryz.pinned.checked.prog = true := by kernel_rfl
theorem fnTermOf_recurses : Tryz.pinned.checked.prog.recurses 3 = Rows.fnTermOfRow.recurses := by kernel_rfl
theorem fnTermOf_unfollowed : Tryz.pinned.checked.prog.unfollowed 3 = Rows.fnTermOfRow.unfollowed := by kernel_rfl
theorem fnTermOf_inPlace : Tryz.pinned.checked.prog.inPlace 3 = Rows.fnTermOfRow.inPlace := by kernel_rfl
theorem fnTermOf_named : Tryz.pinned.checked.prog.varsNamed 3 = Rows.fnTermOfRow.named := by kernel_rfl
theorem fnTermOf_keys : Tryz.pinned.checked.prog.plainKeys = Rows.fnTermOfRow.plainKeys := by kernel_rfl
theorem fnTermOf_heard : Tryz.pinned.checked.prog.stopsHeard = true := by kernel_rfl
theorem fnTermOf_at : Tryz.pinned.checked.prog.funcNamed "loop.example/pushvalue/laws.FnTermOf" = some 3 := by kernel_rfl
theorem fnTermOf_looks : Tryz.pinned.checked.prog.looks [] = true := by kernel_rfl

end Go.Proofs.YtmffcicpiialcaaGreatDoor
