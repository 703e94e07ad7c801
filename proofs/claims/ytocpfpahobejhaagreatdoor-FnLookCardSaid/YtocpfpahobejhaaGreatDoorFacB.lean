/- A closed fact of the program: its main package. -/
import Derived.Test.YtocpfpahobejhaaGreatDoorRows
import Derived.Test.YtocpfpahobejhaaGreatDoorChecked
import Derived.ProofKit
import Derived.Lay
import Derived.LaidMore
import Derived.SevenTiedAt
namespace Go.Proofs.YtocpfpahobejhaaGreatDoor
open Go.ChangeShapes Go.WideShapes Go.ChangeAt Go.RowKit

theorem fac_main : Tryz.pinned.checked.prog.mainIs = some (true, ("c452ff94c301e16839a70662982c4e0ccc5ae0eb463fd9aed5b7a80c65d739ab" : String).toList) := by kernel_rfl
end Go.Proofs.YtocpfpahobejhaaGreatDoor
