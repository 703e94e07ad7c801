/- A closed fact of the program: its main package. -/
import Derived.Test.YtmjhfekcbagibaaGreatDoorRows
import Derived.Test.YtmjhfekcbagibaaGreatDoorChecked
import Derived.ProofKit
import Derived.Lay
import Derived.LaidMore
import Derived.SevenTiedAt
namespace Go.Proofs.YtmjhfekcbagibaaGreatDoor
open Go.ChangeShapes Go.WideShapes Go.ChangeAt Go.RowKit

theorem fac_main : Tryz.pinned.checked.prog.mainIs = some (true, ("419b3e911b18d3388126270fd94de0e0bdbb81bce40e8b54f0e63107b9093353" : String).toList) := by kernel_rfl
end Go.Proofs.YtmjhfekcbagibaaGreatDoor
