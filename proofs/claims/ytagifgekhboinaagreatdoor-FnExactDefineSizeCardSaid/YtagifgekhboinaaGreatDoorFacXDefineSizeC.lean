/- A closed fact of the row: how it goes. -/
import Derived.Test.YtagifgekhboinaaGreatDoorRows
import Derived.Test.YtagifgekhboinaaGreatDoorChecked
import Derived.ProofKit
import Derived.Lay
import Derived.LaidMore
import Derived.SevenTiedAt
namespace Go.Proofs.YtagifgekhboinaaGreatDoor
open Go.ChangeShapes Go.WideShapes Go.ChangeAt Go.RowKit

theorem fnExactDefineSize_goes : false = Rows.fnExactDefineSizeRow.goesBy Tryz.pinned.checked.prog := by kernel_rfl
end Go.Proofs.YtagifgekhboinaaGreatDoor
