/- A closed fact of the program: its main package. -/
import Derived.Test.YtfogjomebcponaaGreatDoorRows
import Derived.Test.YtfogjomebcponaaGreatDoorChecked
import Derived.ProofKit
import Derived.Lay
import Derived.LaidMore
import Derived.SevenTiedAt
namespace Go.Proofs.YtfogjomebcponaaGreatDoor
open Go.ChangeShapes Go.WideShapes Go.ChangeAt Go.RowKit
theorem fac_main : Tryz.pinned.checked.prog.mainIs = some (true, ("093e9ad6b2bdf0502f96ef6b9fde3ad4d09c3c7e2f80e9508681bedb056a06b4" : String).toList) := by kernel_rfl
end Go.Proofs.YtfogjomebcponaaGreatDoor
