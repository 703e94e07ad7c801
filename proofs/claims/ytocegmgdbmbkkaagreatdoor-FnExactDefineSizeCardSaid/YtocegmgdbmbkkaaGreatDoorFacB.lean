/- A closed fact of the program: its main package. -/
import Derived.Test.YtocegmgdbmbkkaaGreatDoorRows
import Derived.Test.YtocegmgdbmbkkaaGreatDoorChecked
import Derived.ProofKit
import Derived.Lay
import Derived.LaidMore
import Derived.SevenTiedAt
namespace Go.Proofs.YtocegmgdbmbkkaaGreatDoor
open Go.ChangeShapes Go.WideShapes Go.ChangeAt Go.RowKit

theorem fac_main : Tryz.pinned.checked.prog.mainIs = some (true, ("3d997dc42ea22622a11e06f06d7ed2800e388eb5d4251e0a5535547c1cb7cd7e" : String).toList) := by kernel_rfl
end Go.Proofs.YtocegmgdbmbkkaaGreatDoor
