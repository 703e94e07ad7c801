/- A closed fact of the row: how it goes. -/
import Derived.Test.YtocpfpahobejhaaGreatDoorRows
import Derived.Test.YtocpfpahobejhaaGreatDoorChecked
import Derived.ProofKit
import Derived.Lay
import Derived.LaidMore
import Derived.SevenTiedAt
namespace Go.Proofs.YtocpfpahobejhaaGreatDoor
open Go.ChangeShapes Go.WideShapes Go.ChangeAt Go.RowKit

theorem fnLook_goes : false = Rows.fnLookRow.goesBy Tryz.pinned.checked.prog := by kernel_rfl
end Go.Proofs.YtocpfpahobejhaaGreatDoor
