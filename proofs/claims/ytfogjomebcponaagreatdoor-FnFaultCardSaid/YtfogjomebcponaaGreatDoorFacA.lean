/- A closed fact of the program: it may be entered. -/
import Derived.Test.YtfogjomebcponaaGreatDoorRows
import Derived.Test.YtfogjomebcponaaGreatDoorChecked
import Derived.ProofKit
import Derived.Lay
import Derived.LaidMore
import Derived.SevenTiedAt
namespace Go.Proofs.YtfogjomebcponaaGreatDoor
open Go.ChangeShapes Go.WideShapes Go.ChangeAt Go.RowKit
theorem fac_may : Tryz.pinned.checked.prog.mayEnter = true := by kernel_rfl
end Go.Proofs.YtfogjomebcponaaGreatDoor
