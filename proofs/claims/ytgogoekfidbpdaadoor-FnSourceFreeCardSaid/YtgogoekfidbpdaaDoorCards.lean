/-
  DERIVED. GIVEN WITH THE SEED: THE CARDS: each row of YtgogoekfidbpdaaDoorRows.lean that lists a variable, with what it lists TIED to the program's text (the seventh form; the later family's looks); each row that meets fmt, with fmt's text TOLD by the authors' own Lean function (tested against real Go, not proved from fmt's source: count such statements apart). THE CARD IS WHAT COUNTS. Prove the row's statement (the work); the ties are given (YtgogoekfidbpdaaDoorTie.lean); close each card by the builder's one call (the guide's Derived/Test/ToyasCard.lean, 'card_holds'). Laid BY PROGRAM, IN A SANDBOX (cutbox-door.mjs). By AI agents, Wed Nov 11 2026. No macro, syntax, notation, axiom, sorry.
-/
import Derived.Test.YtgogoekfidbpdaaDoorRows
import GoSem.ClaimSeven
namespace Go.Proofs.YtgogoekfidbpdaaDoor
namespace Rows

/-- THE TIED CARD OF 'laws.FnSourceFree'. -/
def fnSourceFreeCard : Claim7 := { stood := { row := fnSourceFreeRow, standIns := [], harness := (true, "434bda79f7caca3505c1108ea482abb5be128154b4a4c5019eeb764a5fb2299e"), looks := false }, kinds := [], alts := [], laidByText := true, laidKinds := [.data, .pinned], laidTests := true, laidLooks := .later }
def FnSourceFreeCardSaid : Prop := Claim7.holds Tryd.pinned (.plain (OpenSpec.ofChange fnSourceFreeSpec)) fnSourceFreeCard

/-- THE SECOND FORM's CARD OF 'laws.FnSourceFree'. -/
def fnSourceFreeUptoCard : Claim7 := { stood := { row := fnSourceFreeUptoRow, standIns := [], harness := (true, "434bda79f7caca3505c1108ea482abb5be128154b4a4c5019eeb764a5fb2299e"), looks := false }, kinds := [], alts := [], laidByText := true, laidKinds := [.data, .pinned], laidTests := true, laidLooks := .later }
def FnSourceFreeUptoCardSaid : Prop := Claim7.holds Tryd.pinned (.plain (OpenSpec.upto fnSourceFreeSpec)) fnSourceFreeUptoCard
end Rows
end Go.Proofs.YtgogoekfidbpdaaDoor
