/-
  DERIVED. GIVEN WITH THE SEED: THE CARDS: each row of YtjennpiogdcngabDoorRows.lean that lists a variable, with what it lists TIED to the program's text (the seventh form; the later family's looks); each row that meets fmt, with fmt's text TOLD by the authors' own Lean function (tested against real Go, not proved from fmt's source: count such statements apart). THE CARD IS WHAT COUNTS. Prove the row's statement (the work); the ties are given (YtjennpiogdcngabDoorTie.lean); close each card by the builder's one call (the guide's Derived/Test/ToyasCard.lean, 'card_holds'). Laid BY PROGRAM, IN A SANDBOX (cutbox-door.mjs). By AI agents, Wed Nov 11 2026. No macro, syntax, notation, axiom, sorry.
-/
import Derived.Test.YtjennpiogdcngabDoorRows
import GoSem.ClaimSeven
namespace Go.Proofs.YtjennpiogdcngabDoor
namespace Rows

/-- THE TIED CARD OF 'laws.FnExactTermPure'. -/
def fnExactTermPureCard : Claim7 := { stood := { row := fnExactTermPureRow, standIns := [], harness := (true, "abd06492dd56f2903dbeac277911d381655c705146df224f50637b5ecb92ef0a"), looks := false }, kinds := [], alts := [], laidByText := true, laidKinds := [.data, .pinned], laidTests := true, laidLooks := .later }
def FnExactTermPureCardSaid : Prop := Claim7.holds Tryd.pinned (.plain (OpenSpec.ofChange fnExactTermPureSpec)) fnExactTermPureCard

/-- THE SECOND FORM's CARD OF 'laws.FnExactTermPure'. -/
def fnExactTermPureUptoCard : Claim7 := { stood := { row := fnExactTermPureUptoRow, standIns := [], harness := (true, "abd06492dd56f2903dbeac277911d381655c705146df224f50637b5ecb92ef0a"), looks := false }, kinds := [], alts := [], laidByText := true, laidKinds := [.data, .pinned], laidTests := true, laidLooks := .later }
def FnExactTermPureUptoCardSaid : Prop := Claim7.holds Tryd.pinned (.plain (OpenSpec.upto fnExactTermPureSpec)) fnExactTermPureUptoCard
end Rows
end Go.Proofs.YtjennpiogdcngabDoor
