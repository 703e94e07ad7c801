/-
  DERIVED. GIVEN WITH THE SEED: THE CARDS: each row of YtinlibkkbjfmeaaDoorRows.lean that lists a variable, with what it lists TIED to the program's text (the seventh form; the later family's looks); each row that meets fmt, with fmt's text TOLD by the authors' own Lean function (tested against real Go, not proved from fmt's source: count such statements apart). THE CARD IS WHAT COUNTS. Prove the row's statement (the work); the ties are given (YtinlibkkbjfmeaaDoorTie.lean); close each card by the builder's one call (the guide's Derived/Test/ToyasCard.lean, 'card_holds'). Laid BY PROGRAM, IN A SANDBOX (cutbox-door.mjs). By AI agents, Wed Nov 11 2026. No macro, syntax, notation, axiom, sorry.
-/
import Derived.Test.YtinlibkkbjfmeaaDoorRows
import GoSem.ClaimSeven
namespace Go.Proofs.YtinlibkkbjfmeaaDoor
namespace Rows

/-- THE TIED CARD OF 'laws.FnExactSourceFree'. -/
def fnExactSourceFreeCard : Claim7 := { stood := { row := fnExactSourceFreeRow, standIns := [], harness := (true, "0b4cf28e347932727a885d2e2a2e6f1e14352adba255eafdb5b86a719e01be3e"), looks := false }, kinds := [], alts := [], laidByText := true, laidKinds := [.data, .pinned], laidTests := true, laidLooks := .later }
def FnExactSourceFreeCardSaid : Prop := Claim7.holds Tryd.pinned (.plain (OpenSpec.ofChange fnExactSourceFreeSpec)) fnExactSourceFreeCard

/-- THE TIED CARD OF 'laws.FnExactSourceType'. -/
def fnExactSourceTypeCard : Claim7 := { stood := { row := fnExactSourceTypeRow, standIns := [], harness := (true, "0b4cf28e347932727a885d2e2a2e6f1e14352adba255eafdb5b86a719e01be3e"), looks := false }, kinds := [], alts := [], laidByText := true, laidKinds := [.data, .pinned], laidTests := true, laidLooks := .later }
def FnExactSourceTypeCardSaid : Prop := Claim7.holds Tryd.pinned (.plain (OpenSpec.ofChange fnExactSourceTypeSpec)) fnExactSourceTypeCard

/-- THE TIED CARD OF 'laws.FnExactSourcePure'. -/
def fnExactSourcePureCard : Claim7 := { stood := { row := fnExactSourcePureRow, standIns := [], harness := (true, "0b4cf28e347932727a885d2e2a2e6f1e14352adba255eafdb5b86a719e01be3e"), looks := false }, kinds := [], alts := [], laidByText := true, laidKinds := [.data, .pinned], laidTests := true, laidLooks := .later }
def FnExactSourcePureCardSaid : Prop := Claim7.holds Tryd.pinned (.plain (OpenSpec.ofChange fnExactSourcePureSpec)) fnExactSourcePureCard

/-- THE SECOND FORM's CARD OF 'laws.FnExactSourceFree'. -/
def fnExactSourceFreeUptoCard : Claim7 := { stood := { row := fnExactSourceFreeUptoRow, standIns := [], harness := (true, "0b4cf28e347932727a885d2e2a2e6f1e14352adba255eafdb5b86a719e01be3e"), looks := false }, kinds := [], alts := [], laidByText := true, laidKinds := [.data, .pinned], laidTests := true, laidLooks := .later }
def FnExactSourceFreeUptoCardSaid : Prop := Claim7.holds Tryd.pinned (.plain (OpenSpec.upto fnExactSourceFreeSpec)) fnExactSourceFreeUptoCard

/-- THE SECOND FORM's CARD OF 'laws.FnExactSourceType'. -/
def fnExactSourceTypeUptoCard : Claim7 := { stood := { row := fnExactSourceTypeUptoRow, standIns := [], harness := (true, "0b4cf28e347932727a885d2e2a2e6f1e14352adba255eafdb5b86a719e01be3e"), looks := false }, kinds := [], alts := [], laidByText := true, laidKinds := [.data, .pinned], laidTests := true, laidLooks := .later }
def FnExactSourceTypeUptoCardSaid : Prop := Claim7.holds Tryd.pinned (.plain (OpenSpec.upto fnExactSourceTypeSpec)) fnExactSourceTypeUptoCard

/-- THE SECOND FORM's CARD OF 'laws.FnExactSourcePure'. -/
def fnExactSourcePureUptoCard : Claim7 := { stood := { row := fnExactSourcePureUptoRow, standIns := [], harness := (true, "0b4cf28e347932727a885d2e2a2e6f1e14352adba255eafdb5b86a719e01be3e"), looks := false }, kinds := [], alts := [], laidByText := true, laidKinds := [.data, .pinned], laidTests := true, laidLooks := .later }
def FnExactSourcePureUptoCardSaid : Prop := Claim7.holds Tryd.pinned (.plain (OpenSpec.upto fnExactSourcePureSpec)) fnExactSourcePureUptoCard
end Rows
end Go.Proofs.YtinlibkkbjfmeaaDoor
