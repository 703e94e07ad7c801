/- A closed fact of the row: how it goes. -/
import Derived.Test.YtmffcicpiialcaaGreatDoorRows
import Derived.Test.YtmffcicpiialcaaGreatDoorChecked
import Derived.ProofKit
import Derived.Lay
import Derived.LaidMore
import Derived.SevenTiedAt
namespace Go.Proofs.YtmffcicpiialcaaGreatDoor
open Go.ChangeShapes Go.WideShapes Go.ChangeAt Go.RowKit

theorem fnTermOf_goes : false = Rows.fnTermOfRow.goesBy Tryz.pinned.checked.prog := by kernel_rfl
end Go.Proofs.YtmffcicpiialcaaGreatDoor
