/- A closed fact of the row: how it goes. -/
import Derived.Test.YtfgkjgooaiolcaaGreatDoorRows
import Derived.Test.YtfgkjgooaiolcaaGreatDoorChecked
import Derived.ProofKit
import Derived.Lay
import Derived.LaidMore
import Derived.SevenTiedAt
namespace Go.Proofs.YtfgkjgooaiolcaaGreatDoor
open Go.ChangeShapes Go.WideShapes Go.ChangeAt Go.RowKit

theorem fnExactDefineSize_goes : false = Rows.fnExactDefineSizeRow.goesBy Tryz.pinned.checked.prog := by kernel_rfl
end Go.Proofs.YtfgkjgooaiolcaaGreatDoor
