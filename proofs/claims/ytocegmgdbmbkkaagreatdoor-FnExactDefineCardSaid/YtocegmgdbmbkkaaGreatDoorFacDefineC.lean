/- A closed fact of the row: how it goes. -/
import Derived.Test.YtocegmgdbmbkkaaGreatDoorRows
import Derived.Test.YtocegmgdbmbkkaaGreatDoorChecked
import Derived.ProofKit
import Derived.Lay
import Derived.LaidMore
import Derived.SevenTiedAt
namespace Go.Proofs.YtocegmgdbmbkkaaGreatDoor
open Go.ChangeShapes Go.WideShapes Go.ChangeAt Go.RowKit

theorem fnExactDefine_goes : false = Rows.fnExactDefineRow.goesBy Tryz.pinned.checked.prog := by kernel_rfl
end Go.Proofs.YtocegmgdbmbkkaaGreatDoor
