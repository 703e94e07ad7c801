/- A closed fact of the row: how it goes. -/
import Derived.Test.YtfogjomebcponaaGreatDoorRows
import Derived.Test.YtfogjomebcponaaGreatDoorChecked
import Derived.ProofKit
import Derived.Lay
import Derived.LaidMore
import Derived.SevenTiedAt
namespace Go.Proofs.YtfogjomebcponaaGreatDoor
open Go.ChangeShapes Go.WideShapes Go.ChangeAt Go.RowKit
theorem fnFault_goes : false = Rows.fnFaultRow.goesBy Tryz.pinned.checked.prog := by kernel_rfl
end Go.Proofs.YtfogjomebcponaaGreatDoor
