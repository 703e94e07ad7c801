/- A closed fact of the row: how it goes. -/
import Derived.Test.YtnmbkaemdblhpaaGreatDoorRows
import Derived.Test.YtnmbkaemdblhpaaGreatDoorChecked
import Derived.ProofKit
import Derived.Lay
import Derived.LaidMore
import Derived.SevenTiedAt
namespace Go.Proofs.YtnmbkaemdblhpaaGreatDoor
open Go.ChangeShapes Go.WideShapes Go.ChangeAt Go.RowKit

theorem fnExactElementText_goes : false = Rows.fnExactElementTextRow.goesBy Tryz.pinned.checked.prog := by kernel_rfl
end Go.Proofs.YtnmbkaemdblhpaaGreatDoor
