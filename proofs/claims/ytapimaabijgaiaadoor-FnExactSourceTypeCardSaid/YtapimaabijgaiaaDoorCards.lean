/-
  DERIVED. GIVEN WITH THE SEED: THE CARDS: each row of YtapimaabijgaiaaDoorRows.lean that lists a variable, with what it lists TIED to the program's text (the seventh form; the later family's looks); each row that meets fmt, with fmt's text TOLD by the authors' own Lean function (tested against real Go, not proved from fmt's source: count such statements apart). THE CARD IS WHAT COUNTS. Prove the row's statement (the work); the ties are given (YtapimaabijgaiaaDoorTie.lean); close each card by the builder's one call (the guide's Derived/Test/ToyasCard.lean, 'card_holds'). Laid BY PROGRAM, IN A SANDBOX (cutbox-door.mjs). By AI agents, Wed Nov 11 2026. No macro, syntax, notation, axiom, sorry.
-/
import Derived.Test.YtapimaabijgaiaaDoorRows
import GoSem.ClaimSeven
namespace Go.Proofs.YtapimaabijgaiaaDoor
namespace Rows

/-- THE TIED CARD OF 'laws.FnExactSourceType'. -/
def fnExactSourceTypeCard : Claim7 := { stood := { row := fnExactSourceTypeRow, standIns := [], harness := (true, "dc0fda031752c0c298b646b525ff909c00db717a52adf0f907df06de42a0fbc8"), looks := false }, kinds := [], alts := [], laidByText := true, laidKinds := [.data, .pinned], laidTests := true, laidLooks := .later }
def FnExactSourceTypeCardSaid : Prop := Claim7.holds Tryd.pinned (.plain (OpenSpec.ofChange fnExactSourceTypeSpec)) fnExactSourceTypeCard

/-- THE SECOND FORM's CARD OF 'laws.FnExactSourceType'. -/
def fnExactSourceTypeUptoCard : Claim7 := { stood := { row := fnExactSourceTypeUptoRow, standIns := [], harness := (true, "dc0fda031752c0c298b646b525ff909c00db717a52adf0f907df06de42a0fbc8"), looks := false }, kinds := [], alts := [], laidByText := true, laidKinds := [.data, .pinned], laidTests := true, laidLooks := .later }
def FnExactSourceTypeUptoCardSaid : Prop := Claim7.holds Tryd.pinned (.plain (OpenSpec.upto fnExactSourceTypeSpec)) fnExactSourceTypeUptoCard
end Rows
end Go.Proofs.YtapimaabijgaiaaDoor
