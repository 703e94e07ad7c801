/- A closed fact of the program: its main package. -/
import Derived.Test.YtmffcicpiialcaaGreatDoorRows
import Derived.Test.YtmffcicpiialcaaGreatDoorChecked
import Derived.ProofKit
import Derived.Lay
import Derived.LaidMore
import Derived.SevenTiedAt
namespace Go.Proofs.YtmffcicpiialcaaGreatDoor
open Go.ChangeShapes Go.WideShapes Go.ChangeAt Go.RowKit

theorem fac_main : Tryz.pinned.checked.prog.mainIs = some (true, ("37a65afaad174245feceb320483de64b70bfed05b338cc9a4c031283791bdff5" : String).toList) := by kernel_rfl
end Go.Proofs.YtmffcicpiialcaaGreatDoor
