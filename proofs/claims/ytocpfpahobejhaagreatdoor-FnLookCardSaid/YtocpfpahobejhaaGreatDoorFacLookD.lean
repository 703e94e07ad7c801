/- Closed facts of the row: what the law reaches. -/
import Derived.Test.YtocpfpahobejhaaGreatDoorRows
import Derived.Test.YtocpfpahobejhaaGreatDoorChecked
import Derived.ProofKit
import Derived.Lay
import Derived.LaidMore
import Derived.SevenTiedAt
namespace Go.Proofs.YtocpfpahobejhaaGreatDoor
open Go.ChangeShapes Go.WideShapes Go.ChangeAt Go.RowKit

theorem fnLook_laid : laidOutB Tryz.pinned.checked.prog = true := by kernel_rfl
theorem fnLook_rowed : mapsRowed Tryz.pinned.checked.prog = true := by kernel_rfl
theorem fnLook_recurses : Tryz.pinned.checked.prog.recurses 10 = Rows.fnLookRow.recurses := by kernel_rfl
theorem fnLook_unfollowed : Tryz.pinned.checked.prog.unfollowed 10 = Rows.fnLookRow.unfollowed := by kernel_rfl
theorem fnLook_inPlace : Tryz.pinned.checked.prog.inPlace 10 = Rows.fnLookRow.inPlace := by kernel_rfl
theorem fnLook_named : Tryz.pinned.checked.prog.varsNamed 10 = Rows.fnLookRow.named := by kernel_rfl
theorem fnLook_keys : Tryz.pinned.checked.prog.plainKeys = Rows.fnLookRow.plainKeys := by kernel_rfl
theorem fnLook_heard : Tryz.pinned.checked.prog.stopsHeard = true := by kernel_rfl
theorem fnLook_at : Tryz.pinned.checked.prog.funcNamed "loop.example/pushvalue/laws.FnLook" = some 10 := by kernel_rfl
theorem fnLook_looks : Tryz.pinned.checked.prog.looks [] = true := by kernel_rfl

end Go.Proofs.YtocpfpahobejhaaGreatDoor
