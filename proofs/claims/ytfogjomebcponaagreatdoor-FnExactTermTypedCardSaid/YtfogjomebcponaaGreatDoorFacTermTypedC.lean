/- A closed fact of the row: how it goes. -/
import Derived.Test.YtfogjomebcponaaGreatDoorRows
import Derived.Test.YtfogjomebcponaaGreatDoorChecked
import Derived.ProofKit
import Derived.Lay
import Derived.LaidMore
import Derived.SevenTiedAt
namespace Go.Proofs.YtfogjomebcponaaGreatDoor
open Go.ChangeShapes Go.WideShapes Go.ChangeAt Go.RowKit

theorem fnExactTermTyped_goes : false = Rows.fnExactTermTypedRow.goesBy Tryz.pinned.checked.prog := by kernel_rfl
end Go.Proofs.YtfogjomebcponaaGreatDoor
