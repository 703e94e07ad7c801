/-
  DERIVED. GIVEN WITH THE SEED: THE CARDS: each row of YtnmbkaemdblhpaaGreatDoorRows.lean that lists a variable, with what it lists TIED to the program's text (the seventh form; the later family's looks); each row that meets fmt, with fmt's text TOLD by the authors' own Lean function (tested against real Go, not proved from fmt's source: count such statements apart). THE CARD IS WHAT COUNTS. Prove the row's statement (the work); the ties are given (YtnmbkaemdblhpaaGreatDoorTie.lean); close each card by the builder's one call (the guide's Derived/Test/ToyasCard.lean, 'card_holds'). Laid BY PROGRAM, IN A SANDBOX (cutbox-door.mjs). By AI agents, Wed Nov 11 2026. No macro, syntax, notation, axiom, sorry.
-/
import Derived.Test.YtnmbkaemdblhpaaGreatDoorRows
import GoSem.ClaimSeven
namespace Go.Proofs.YtnmbkaemdblhpaaGreatDoor
namespace Rows

/-- THE TIED CARD OF 'laws.FnExactElementText'. -/
def fnExactElementTextCard : Claim7 := { stood := { row := fnExactElementTextRow, standIns := [], harness := (true, "5ebcc43d5a0478ac99a793ef4390ba4eac392836b1a7eeb08b5bf8cce623117d"), looks := true }, kinds := [], alts := [], laidByText := true, laidKinds := [.data, .data, .data], laidTests := true, laidLooks := .later }
def FnExactElementTextCardSaid : Prop := Claim7.holds Tryz.pinned (.plain (OpenSpec.ofChange fnExactElementTextSpec)) fnExactElementTextCard

/-- THE SECOND FORM's CARD OF 'laws.FnExactElementText'. -/
def fnExactElementTextUptoCard : Claim7 := { stood := { row := fnExactElementTextUptoRow, standIns := [], harness := (true, "5ebcc43d5a0478ac99a793ef4390ba4eac392836b1a7eeb08b5bf8cce623117d"), looks := true }, kinds := [], alts := [], laidByText := true, laidKinds := [.data, .data, .data], laidTests := true, laidLooks := .later }
def FnExactElementTextUptoCardSaid : Prop := Claim7.holds Tryz.pinned (.plain (OpenSpec.upto fnExactElementTextSpec)) fnExactElementTextUptoCard
end Rows
end Go.Proofs.YtnmbkaemdblhpaaGreatDoor
