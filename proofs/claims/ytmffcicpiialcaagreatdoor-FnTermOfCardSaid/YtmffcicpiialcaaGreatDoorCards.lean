/-
  DERIVED. GIVEN WITH THE SEED: THE CARDS: each row of YtmffcicpiialcaaGreatDoorRows.lean that lists a variable, with what it lists TIED to the program's text (the seventh form; the later family's looks); each row that meets fmt, with fmt's text TOLD by the authors' own Lean function (tested against real Go, not proved from fmt's source: count such statements apart). THE CARD IS WHAT COUNTS. Prove the row's statement (the work); the ties are given (YtmffcicpiialcaaGreatDoorTie.lean); close each card by the builder's one call (the guide's Derived/Test/ToyasCard.lean, 'card_holds'). Laid BY PROGRAM, IN A SANDBOX (cutbox-door.mjs). By AI agents, Wed Nov 11 2026. No macro, syntax, notation, axiom, sorry.
-/
import Derived.Test.YtmffcicpiialcaaGreatDoorRows
import GoSem.ClaimSeven
namespace Go.Proofs.YtmffcicpiialcaaGreatDoor
namespace Rows

/-- THE TIED CARD OF 'laws.FnTermOf'. -/
def fnTermOfCard : Claim7 := { stood := { row := fnTermOfRow, standIns := [], harness := (true, "37a65afaad174245feceb320483de64b70bfed05b338cc9a4c031283791bdff5"), looks := true }, kinds := [], alts := [], laidByText := true, laidKinds := [.data, .data, .data, .data, .pinned], laidTests := true, laidLooks := .later }
def FnTermOfCardSaid : Prop := Claim7.holds Tryz.pinned (.plain (OpenSpec.ofChange fnTermOfSpec)) fnTermOfCard

/-- THE SECOND FORM's CARD OF 'laws.FnTermOf'. -/
def fnTermOfUptoCard : Claim7 := { stood := { row := fnTermOfUptoRow, standIns := [], harness := (true, "37a65afaad174245feceb320483de64b70bfed05b338cc9a4c031283791bdff5"), looks := true }, kinds := [], alts := [], laidByText := true, laidKinds := [.data, .data, .data, .data, .pinned], laidTests := true, laidLooks := .later }
def FnTermOfUptoCardSaid : Prop := Claim7.holds Tryz.pinned (.plain (OpenSpec.upto fnTermOfSpec)) fnTermOfUptoCard
end Rows
end Go.Proofs.YtmffcicpiialcaaGreatDoor
