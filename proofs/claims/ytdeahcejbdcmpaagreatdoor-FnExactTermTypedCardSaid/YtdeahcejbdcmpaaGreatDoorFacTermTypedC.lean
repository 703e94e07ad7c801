/- A closed fact of the row: how it goes. -/
import Derived.Test.YtdeahcejbdcmpaaGreatDoorRows
import Derived.Test.YtdeahcejbdcmpaaGreatDoorChecked
import Derived.ProofKit
import Derived.Lay
import Derived.LaidMore
import Derived.SevenTiedAt
namespace Go.Proofs.YtdeahcejbdcmpaaGreatDoor
open Go.ChangeShapes Go.WideShapes Go.ChangeAt Go.RowKit

theorem fnExactTermTyped_goes : false = Rows.fnExactTermTypedRow.goesBy Tryz.pinned.checked.prog := by kernel_rfl
end Go.Proofs.YtdeahcejbdcmpaaGreatDoor
