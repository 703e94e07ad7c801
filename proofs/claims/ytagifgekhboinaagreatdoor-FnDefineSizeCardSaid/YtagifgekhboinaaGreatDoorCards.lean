/-
  DERIVED. GIVEN WITH THE SEED: THE CARDS: each row of YtagifgekhboinaaGreatDoorRows.lean that lists a variable, with what it lists TIED to the program's text (the seventh form; the later family's looks); each row that meets fmt, with fmt's text TOLD by the authors' own Lean function (tested against real Go, not proved from fmt's source: count such statements apart). THE CARD IS WHAT COUNTS. Prove the row's statement (the work); the ties are given (YtagifgekhboinaaGreatDoorTie.lean); close each card by the builder's one call (the guide's Derived/Test/ToyasCard.lean, 'card_holds'). Laid BY PROGRAM, IN A SANDBOX (cutbox-door.mjs). By AI agents, Wed Nov 11 2026. No macro, syntax, notation, axiom, sorry.
-/
import Derived.Test.YtagifgekhboinaaGreatDoorRows
import GoSem.ClaimSeven
namespace Go.Proofs.YtagifgekhboinaaGreatDoor
namespace Rows

/-- THE TIED CARD OF 'laws.FnExactDefineSize'. -/
def fnExactDefineSizeCard : Claim7 := { stood := { row := fnExactDefineSizeRow, standIns := [], harness := (true, "247ded262d75b0b7348c83ac72e357978cb076c1acc7585a5a003ff93d30f9b0"), looks := true }, kinds := [], alts := [], laidByText := true, laidKinds := [.data, .data, .data, .data, .pinned], laidTests := true, laidLooks := .later }
def FnExactDefineSizeCardSaid : Prop := Claim7.holds Tryz.pinned (.plain (OpenSpec.ofChange fnExactDefineSizeSpec)) fnExactDefineSizeCard

/-- THE TIED CARD OF 'laws.FnDefineSize'. -/
def fnDefineSizeCard : Claim7 := { stood := { row := fnDefineSizeRow, standIns := [], harness := (true, "247ded262d75b0b7348c83ac72e357978cb076c1acc7585a5a003ff93d30f9b0"), looks := true }, kinds := [], alts := [], laidByText := true, laidKinds := [.data, .data, .data, .data, .pinned], laidTests := true, laidLooks := .later }
def FnDefineSizeCardSaid : Prop := Claim7.holds Tryz.pinned (.plain (OpenSpec.ofChange fnDefineSizeSpec)) fnDefineSizeCard

/-- THE SECOND FORM's CARD OF 'laws.FnExactDefineSize'. -/
def fnExactDefineSizeUptoCard : Claim7 := { stood := { row := fnExactDefineSizeUptoRow, standIns := [], harness := (true, "247ded262d75b0b7348c83ac72e357978cb076c1acc7585a5a003ff93d30f9b0"), looks := true }, kinds := [], alts := [], laidByText := true, laidKinds := [.data, .data, .data, .data, .pinned], laidTests := true, laidLooks := .later }
def FnExactDefineSizeUptoCardSaid : Prop := Claim7.holds Tryz.pinned (.plain (OpenSpec.upto fnExactDefineSizeSpec)) fnExactDefineSizeUptoCard

/-- THE SECOND FORM's CARD OF 'laws.FnDefineSize'. -/
def fnDefineSizeUptoCard : Claim7 := { stood := { row := fnDefineSizeUptoRow, standIns := [], harness := (true, "247ded262d75b0b7348c83ac72e357978cb076c1acc7585a5a003ff93d30f9b0"), looks := true }, kinds := [], alts := [], laidByText := true, laidKinds := [.data, .data, .data, .data, .pinned], laidTests := true, laidLooks := .later }
def FnDefineSizeUptoCardSaid : Prop := Claim7.holds Tryz.pinned (.plain (OpenSpec.upto fnDefineSizeSpec)) fnDefineSizeUptoCard
end Rows
end Go.Proofs.YtagifgekhboinaaGreatDoor
