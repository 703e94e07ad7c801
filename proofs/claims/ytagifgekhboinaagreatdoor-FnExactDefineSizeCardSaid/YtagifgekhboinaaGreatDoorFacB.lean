/- A closed fact of the program: its main package. -/
import Derived.Test.YtagifgekhboinaaGreatDoorRows
import Derived.Test.YtagifgekhboinaaGreatDoorChecked
import Derived.ProofKit
import Derived.Lay
import Derived.LaidMore
import Derived.SevenTiedAt
namespace Go.Proofs.YtagifgekhboinaaGreatDoor
open Go.ChangeShapes Go.WideShapes Go.ChangeAt Go.RowKit
theorem fac_main : Tryz.pinned.checked.prog.mainIs = some (true, ("247ded262d75b0b7348c83ac72e357978cb076c1acc7585a5a003ff93d30f9b0" : String).toList) := by kernel_rfl
end Go.Proofs.YtagifgekhboinaaGreatDoor
