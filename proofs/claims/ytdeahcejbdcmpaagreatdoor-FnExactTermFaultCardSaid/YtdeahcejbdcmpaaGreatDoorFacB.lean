/- A closed fact of the program: its main package. -/
import Derived.Test.YtdeahcejbdcmpaaGreatDoorRows
import Derived.Test.YtdeahcejbdcmpaaGreatDoorChecked
import Derived.ProofKit
import Derived.Lay
import Derived.LaidMore
import Derived.SevenTiedAt
namespace Go.Proofs.YtdeahcejbdcmpaaGreatDoor
open Go.ChangeShapes Go.WideShapes Go.ChangeAt Go.RowKit

theorem fac_main : Tryz.pinned.checked.prog.mainIs = some (true, ("016d82d035a4e1ffcbf055574112bfc9e42d5a432b8ec9aed666a9d55cad7f33" : String).toList) := by kernel_rfl
end Go.Proofs.YtdeahcejbdcmpaaGreatDoor
