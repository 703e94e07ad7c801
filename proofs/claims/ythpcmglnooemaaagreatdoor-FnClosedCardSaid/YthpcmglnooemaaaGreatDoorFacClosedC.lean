/- A closed fact of the row: how it goes. -/
import Derived.Test.YthpcmglnooemaaaGreatDoorRows
import Derived.Test.YthpcmglnooemaaaGreatDoorChecked
import Derived.ProofKit
import Derived.Lay
import Derived.LaidMore
import Derived.SevenTiedAt
namespace Go.Proofs.YthpcmglnooemaaaGreatDoor
open Go.ChangeShapes Go.WideShapes Go.ChangeAt Go.RowKit

theorem fnClosed_goes : false = Rows.fnClosedRow.goesBy Tryz.pinned.checked.prog := by kernel_rfl
end Go.Proofs.YthpcmglnooemaaaGreatDoor
