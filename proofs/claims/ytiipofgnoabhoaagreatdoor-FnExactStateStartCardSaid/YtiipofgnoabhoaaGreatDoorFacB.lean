/- A closed fact of the program: its main package. -/
import Derived.Test.YtiipofgnoabhoaaGreatDoorRows
import Derived.Test.YtiipofgnoabhoaaGreatDoorChecked
import Derived.ProofKit
import Derived.Lay
import Derived.LaidMore
import Derived.SevenTiedAt
namespace Go.Proofs.YtiipofgnoabhoaaGreatDoor
open Go.ChangeShapes Go.WideShapes Go.ChangeAt Go.RowKit

theorem fac_main : Tryz.pinned.checked.prog.mainIs = some (true, ("cbed2e95ed3cbdfa0a2db63f27befb0902665bfd43e7f7c11be651aa585baf9a" : String).toList) := by kernel_rfl
end Go.Proofs.YtiipofgnoabhoaaGreatDoor
