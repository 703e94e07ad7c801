/- A closed fact of the row: how it goes. -/
import Derived.Test.YtiipofgnoabhoaaGreatDoorRows
import Derived.Test.YtiipofgnoabhoaaGreatDoorChecked
import Derived.ProofKit
import Derived.Lay
import Derived.LaidMore
import Derived.SevenTiedAt
namespace Go.Proofs.YtiipofgnoabhoaaGreatDoor
open Go.ChangeShapes Go.WideShapes Go.ChangeAt Go.RowKit

theorem fnExactStateStart_goes : false = Rows.fnExactStateStartRow.goesBy Tryz.pinned.checked.prog := by kernel_rfl
end Go.Proofs.YtiipofgnoabhoaaGreatDoor
