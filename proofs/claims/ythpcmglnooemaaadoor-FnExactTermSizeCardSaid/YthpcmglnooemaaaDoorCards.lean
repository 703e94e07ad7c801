/-
  DERIVED. GIVEN WITH THE SEED: THE CARDS: each row of YthpcmglnooemaaaDoorRows.lean that lists a variable, with what it lists TIED to the program's text (the seventh form; the later family's looks); each row that meets fmt, with fmt's text TOLD by the authors' own Lean function (tested against real Go, not proved from fmt's source: count such statements apart). THE CARD IS WHAT COUNTS. Prove the row's statement (the work); the ties are given (YthpcmglnooemaaaDoorTie.lean); close each card by the builder's one call (the guide's Derived/Test/ToyasCard.lean, 'card_holds'). Laid BY PROGRAM, IN A SANDBOX (cutbox-door.mjs). By AI agents, Wed Nov 11 2026. No macro, syntax, notation, axiom, sorry.
-/
import Derived.Test.YthpcmglnooemaaaDoorRows
import GoSem.ClaimSeven
namespace Go.Proofs.YthpcmglnooemaaaDoor
namespace Rows

/-- THE TIED CARD OF 'laws.FnExactTermSize'. -/
def fnExactTermSizeCard : Claim7 := { stood := { row := fnExactTermSizeRow, standIns := [], harness := (true, "9d9b9e02dca4f35748b5dfda59b26ad7e3c5c887276e069cbb8563e384a00da5"), looks := false }, kinds := [], alts := [], laidByText := true, laidKinds := [.data, .pinned], laidTests := true, laidLooks := .later }
def FnExactTermSizeCardSaid : Prop := Claim7.holds Tryd.pinned (.plain (OpenSpec.ofChange fnExactTermSizeSpec)) fnExactTermSizeCard

/-- THE SECOND FORM's CARD OF 'laws.FnExactTermSize'. -/
def fnExactTermSizeUptoCard : Claim7 := { stood := { row := fnExactTermSizeUptoRow, standIns := [], harness := (true, "9d9b9e02dca4f35748b5dfda59b26ad7e3c5c887276e069cbb8563e384a00da5"), looks := false }, kinds := [], alts := [], laidByText := true, laidKinds := [.data, .pinned], laidTests := true, laidLooks := .later }
def FnExactTermSizeUptoCardSaid : Prop := Claim7.holds Tryd.pinned (.plain (OpenSpec.upto fnExactTermSizeSpec)) fnExactTermSizeUptoCard
end Rows
end Go.Proofs.YthpcmglnooemaaaDoor
