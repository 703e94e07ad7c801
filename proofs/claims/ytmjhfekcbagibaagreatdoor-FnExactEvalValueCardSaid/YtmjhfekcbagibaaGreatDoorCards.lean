/-
  DERIVED. GIVEN WITH THE SEED: THE CARDS: each row of YtmjhfekcbagibaaGreatDoorRows.lean that lists a variable, with what it lists TIED to the program's text (the seventh form; the later family's looks); each row that meets fmt, with fmt's text TOLD by the authors' own Lean function (tested against real Go, not proved from fmt's source: count such statements apart). THE CARD IS WHAT COUNTS. Prove the row's statement (the work); the ties are given (YtmjhfekcbagibaaGreatDoorTie.lean); close each card by the builder's one call (the guide's Derived/Test/ToyasCard.lean, 'card_holds'). Laid BY PROGRAM, IN A SANDBOX (cutbox-door.mjs). By AI agents, Wed Nov 11 2026. No macro, syntax, notation, axiom, sorry.
-/
import Derived.Test.YtmjhfekcbagibaaGreatDoorRows
import GoSem.ClaimSeven
namespace Go.Proofs.YtmjhfekcbagibaaGreatDoor
namespace Rows

/-- THE TIED CARD OF 'laws.FnExactEvalValue'. -/
def fnExactEvalValueCard : Claim7 := { stood := { row := fnExactEvalValueRow, standIns := [], harness := (true, "419b3e911b18d3388126270fd94de0e0bdbb81bce40e8b54f0e63107b9093353"), looks := true }, kinds := [], alts := [], laidByText := true, laidKinds := [.data, .data, .data, .data, .pinned], laidTests := true, laidLooks := .later }
def FnExactEvalValueCardSaid : Prop := Claim7.holds Tryz.pinned (.plain (OpenSpec.ofChange fnExactEvalValueSpec)) fnExactEvalValueCard

/-- THE SECOND FORM's CARD OF 'laws.FnExactEvalValue'. -/
def fnExactEvalValueUptoCard : Claim7 := { stood := { row := fnExactEvalValueUptoRow, standIns := [], harness := (true, "419b3e911b18d3388126270fd94de0e0bdbb81bce40e8b54f0e63107b9093353"), looks := true }, kinds := [], alts := [], laidByText := true, laidKinds := [.data, .data, .data, .data, .pinned], laidTests := true, laidLooks := .later }
def FnExactEvalValueUptoCardSaid : Prop := Claim7.holds Tryz.pinned (.plain (OpenSpec.upto fnExactEvalValueSpec)) fnExactEvalValueUptoCard
end Rows
end Go.Proofs.YtmjhfekcbagibaaGreatDoor
