/- A closed fact of the program: its main package. -/
import Derived.Test.YthpcmglnooemaaaGreatDoorRows
import Derived.Test.YthpcmglnooemaaaGreatDoorChecked
import Derived.ProofKit
import Derived.Lay
import Derived.LaidMore
import Derived.SevenTiedAt
namespace Go.Proofs.YthpcmglnooemaaaGreatDoor
open Go.ChangeShapes Go.WideShapes Go.ChangeAt Go.RowKit

theorem fac_main : Tryz.pinned.checked.prog.mainIs = some (true, ("a2b8c24a4f2ac5d3c3779d4550dda4c0bd46cd3025294fc92f82c97d81503526" : String).toList) := by kernel_rfl
end Go.Proofs.YthpcmglnooemaaaGreatDoor
