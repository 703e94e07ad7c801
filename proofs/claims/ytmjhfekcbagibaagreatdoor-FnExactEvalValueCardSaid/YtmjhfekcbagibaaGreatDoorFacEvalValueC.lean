/- A closed fact of the row: how it goes. -/
import Derived.Test.YtmjhfekcbagibaaGreatDoorRows
import Derived.Test.YtmjhfekcbagibaaGreatDoorChecked
import Derived.ProofKit
import Derived.Lay
import Derived.LaidMore
import Derived.SevenTiedAt
namespace Go.Proofs.YtmjhfekcbagibaaGreatDoor
open Go.ChangeShapes Go.WideShapes Go.ChangeAt Go.RowKit

theorem fnExactEvalValue_goes : false = Rows.fnExactEvalValueRow.goesBy Tryz.pinned.checked.prog := by kernel_rfl
end Go.Proofs.YtmjhfekcbagibaaGreatDoor
