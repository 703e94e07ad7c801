/-
  DERIVED. GIVEN WITH THE SEED: THE CARDS: each row of YtfgkjgooaiolcaaGreatDoorRows.lean that lists a variable, with what it lists TIED to the program's text (the seventh form; the later family's looks); each row that meets fmt, with fmt's text TOLD by the authors' own Lean function (tested against real Go, not proved from fmt's source: count such statements apart). THE CARD IS WHAT COUNTS. Prove the row's statement (the work); the ties are given (YtfgkjgooaiolcaaGreatDoorTie.lean); close each card by the builder's one call (the guide's Derived/Test/ToyasCard.lean, 'card_holds'). Laid BY PROGRAM, IN A SANDBOX (cutbox-door.mjs). By AI agents, Wed Nov 11 2026. No macro, syntax, notation, axiom, sorry.
-/
import Derived.Test.YtfgkjgooaiolcaaGreatDoorRows
import GoSem.ClaimSeven
namespace Go.Proofs.YtfgkjgooaiolcaaGreatDoor
namespace Rows

/-- THE TIED CARD OF 'laws.FnDefineSize'. -/
def fnDefineSizeCard : Claim7 := { stood := { row := fnDefineSizeRow, standIns := [], harness := (true, "81cbb0b1c008f8d70c42a58bf3fb343de1b2902fe1f3bb30eca231767858d32f"), looks := true }, kinds := [], alts := [], laidByText := true, laidKinds := [.data, .data, .data, .data, .pinned], laidTests := true, laidLooks := .later }
def FnDefineSizeCardSaid : Prop := Claim7.holds Tryz.pinned (.plain (OpenSpec.ofChange fnDefineSizeSpec)) fnDefineSizeCard

/-- THE TIED CARD OF 'laws.FnExactDefine'. -/
def fnExactDefineCard : Claim7 := { stood := { row := fnExactDefineRow, standIns := [], harness := (true, "81cbb0b1c008f8d70c42a58bf3fb343de1b2902fe1f3bb30eca231767858d32f"), looks := true }, kinds := [], alts := [], laidByText := true, laidKinds := [.data, .data, .data, .data, .pinned], laidTests := true, laidLooks := .later }
def FnExactDefineCardSaid : Prop := Claim7.holds Tryz.pinned (.plain (OpenSpec.ofChange fnExactDefineSpec)) fnExactDefineCard

/-- THE TIED CARD OF 'laws.FnExactDefineSize'. -/
def fnExactDefineSizeCard : Claim7 := { stood := { row := fnExactDefineSizeRow, standIns := [], harness := (true, "81cbb0b1c008f8d70c42a58bf3fb343de1b2902fe1f3bb30eca231767858d32f"), looks := true }, kinds := [], alts := [], laidByText := true, laidKinds := [.data, .data, .data, .data, .pinned], laidTests := true, laidLooks := .later }
def FnExactDefineSizeCardSaid : Prop := Claim7.holds Tryz.pinned (.plain (OpenSpec.ofChange fnExactDefineSizeSpec)) fnExactDefineSizeCard

/-- THE SECOND FORM's CARD OF 'laws.FnDefineSize'. -/
def fnDefineSizeUptoCard : Claim7 := { stood := { row := fnDefineSizeUptoRow, standIns := [], harness := (true, "81cbb0b1c008f8d70c42a58bf3fb343de1b2902fe1f3bb30eca231767858d32f"), looks := true }, kinds := [], alts := [], laidByText := true, laidKinds := [.data, .data, .data, .data, .pinned], laidTests := true, laidLooks := .later }
def FnDefineSizeUptoCardSaid : Prop := Claim7.holds Tryz.pinned (.plain (OpenSpec.upto fnDefineSizeSpec)) fnDefineSizeUptoCard

/-- THE SECOND FORM's CARD OF 'laws.FnExactDefine'. -/
def fnExactDefineUptoCard : Claim7 := { stood := { row := fnExactDefineUptoRow, standIns := [], harness := (true, "81cbb0b1c008f8d70c42a58bf3fb343de1b2902fe1f3bb30eca231767858d32f"), looks := true }, kinds := [], alts := [], laidByText := true, laidKinds := [.data, .data, .data, .data, .pinned], laidTests := true, laidLooks := .later }
def FnExactDefineUptoCardSaid : Prop := Claim7.holds Tryz.pinned (.plain (OpenSpec.upto fnExactDefineSpec)) fnExactDefineUptoCard

/-- THE SECOND FORM's CARD OF 'laws.FnExactDefineSize'. -/
def fnExactDefineSizeUptoCard : Claim7 := { stood := { row := fnExactDefineSizeUptoRow, standIns := [], harness := (true, "81cbb0b1c008f8d70c42a58bf3fb343de1b2902fe1f3bb30eca231767858d32f"), looks := true }, kinds := [], alts := [], laidByText := true, laidKinds := [.data, .data, .data, .data, .pinned], laidTests := true, laidLooks := .later }
def FnExactDefineSizeUptoCardSaid : Prop := Claim7.holds Tryz.pinned (.plain (OpenSpec.upto fnExactDefineSizeSpec)) fnExactDefineSizeUptoCard
end Rows
end Go.Proofs.YtfgkjgooaiolcaaGreatDoor
