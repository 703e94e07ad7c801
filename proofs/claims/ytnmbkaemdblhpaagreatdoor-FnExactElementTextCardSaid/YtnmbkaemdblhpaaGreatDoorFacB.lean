/- A closed fact of the program: its main package. -/
import Derived.Test.YtnmbkaemdblhpaaGreatDoorRows
import Derived.Test.YtnmbkaemdblhpaaGreatDoorChecked
import Derived.ProofKit
import Derived.Lay
import Derived.LaidMore
import Derived.SevenTiedAt
namespace Go.Proofs.YtnmbkaemdblhpaaGreatDoor
open Go.ChangeShapes Go.WideShapes Go.ChangeAt Go.RowKit

theorem fac_main : Tryz.pinned.checked.prog.mainIs = some (true, ("5ebcc43d5a0478ac99a793ef4390ba4eac392836b1a7eeb08b5bf8cce623117d" : String).toList) := by kernel_rfl
end Go.Proofs.YtnmbkaemdblhpaaGreatDoor
