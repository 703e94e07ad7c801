/- A closed fact of the program: it may be entered. -/
import Derived.Test.YtagifgekhboinaaGreatDoorRows
import Derived.Test.YtagifgekhboinaaGreatDoorChecked
import Derived.ProofKit
import Derived.Lay
import Derived.LaidMore
import Derived.SevenTiedAt
namespace Go.Proofs.YtagifgekhboinaaGreatDoor
open Go.ChangeShapes Go.WideShapes Go.ChangeAt Go.RowKit
theorem fac_may : Tryz.pinned.checked.prog.mayEnter = true := by kernel_rfl
end Go.Proofs.YtagifgekhboinaaGreatDoor
