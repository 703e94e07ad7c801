/- A closed fact of the program: its main package. -/
import Derived.Test.YtfgkjgooaiolcaaGreatDoorRows
import Derived.Test.YtfgkjgooaiolcaaGreatDoorChecked
import Derived.ProofKit
import Derived.Lay
import Derived.LaidMore
import Derived.SevenTiedAt
namespace Go.Proofs.YtfgkjgooaiolcaaGreatDoor
open Go.ChangeShapes Go.WideShapes Go.ChangeAt Go.RowKit

theorem fac_main : Tryz.pinned.checked.prog.mainIs = some (true, ("81cbb0b1c008f8d70c42a58bf3fb343de1b2902fe1f3bb30eca231767858d32f" : String).toList) := by kernel_rfl
end Go.Proofs.YtfgkjgooaiolcaaGreatDoor
