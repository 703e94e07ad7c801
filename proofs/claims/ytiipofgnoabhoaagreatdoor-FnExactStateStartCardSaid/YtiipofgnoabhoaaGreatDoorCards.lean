/-
  DERIVED. GIVEN WITH THE SEED: THE CARDS: each row of YtiipofgnoabhoaaGreatDoorRows.lean that lists a variable, with what it lists TIED to the program's text (the seventh form; the later family's looks); each row that meets fmt, with fmt's text TOLD by the authors' own Lean function (tested against real Go, not proved from fmt's source: count such statements apart). THE CARD IS WHAT COUNTS. Prove the row's statement (the work); the ties are given (YtiipofgnoabhoaaGreatDoorTie.lean); close each card by the builder's one call (the guide's Derived/Test/ToyasCard.lean, 'card_holds'). Laid BY PROGRAM, IN A SANDBOX (cutbox-door.mjs). By AI agents, Wed Nov 11 2026. No macro, syntax, notation, axiom, sorry.
-/
import Derived.Test.YtiipofgnoabhoaaGreatDoorRows
import GoSem.ClaimSeven
namespace Go.Proofs.YtiipofgnoabhoaaGreatDoor
namespace Rows

/-- THE TIED CARD OF 'laws.FnProgress'. -/
def fnProgressCard : Claim7 := { stood := { row := fnProgressRow, standIns := [], harness := (true, "cbed2e95ed3cbdfa0a2db63f27befb0902665bfd43e7f7c11be651aa585baf9a"), looks := true }, kinds := [], alts := [], laidByText := true, laidKinds := [.data, .data, .data, .data, .pinned], laidTests := true, laidLooks := .later }
def FnProgressCardSaid : Prop := Claim7.holds Tryz.pinned (.plain (OpenSpec.ofChange fnProgressSpec)) fnProgressCard

/-- THE TIED CARD OF 'laws.FnRunStuck'. -/
def fnRunStuckCard : Claim7 := { stood := { row := fnRunStuckRow, standIns := [], harness := (true, "cbed2e95ed3cbdfa0a2db63f27befb0902665bfd43e7f7c11be651aa585baf9a"), looks := true }, kinds := [], alts := [], laidByText := true, laidKinds := [.data, .data, .data, .data, .pinned], laidTests := true, laidLooks := .later }
def FnRunStuckCardSaid : Prop := Claim7.holds Tryz.pinned (.plain (OpenSpec.ofChange fnRunStuckSpec)) fnRunStuckCard

/-- THE TIED CARD OF 'laws.FnExactTermType'. -/
def fnExactTermTypeCard : Claim7 := { stood := { row := fnExactTermTypeRow, standIns := [], harness := (true, "cbed2e95ed3cbdfa0a2db63f27befb0902665bfd43e7f7c11be651aa585baf9a"), looks := true }, kinds := [], alts := [], laidByText := true, laidKinds := [.data, .pinned], laidTests := true, laidLooks := .later }
def FnExactTermTypeCardSaid : Prop := Claim7.holds Tryz.pinned (.plain (OpenSpec.ofChange fnExactTermTypeSpec)) fnExactTermTypeCard

/-- THE TIED CARD OF 'laws.FnExactStateValid'. -/
def fnExactStateValidCard : Claim7 := { stood := { row := fnExactStateValidRow, standIns := [], harness := (true, "cbed2e95ed3cbdfa0a2db63f27befb0902665bfd43e7f7c11be651aa585baf9a"), looks := true }, kinds := [], alts := [], laidByText := true, laidKinds := [.data, .data, .data, .data, .pinned], laidTests := true, laidLooks := .later }
def FnExactStateValidCardSaid : Prop := Claim7.holds Tryz.pinned (.plain (OpenSpec.ofChange fnExactStateValidSpec)) fnExactStateValidCard

/-- THE TIED CARD OF 'laws.FnExactStateStart'. -/
def fnExactStateStartCard : Claim7 := { stood := { row := fnExactStateStartRow, standIns := [], harness := (true, "cbed2e95ed3cbdfa0a2db63f27befb0902665bfd43e7f7c11be651aa585baf9a"), looks := true }, kinds := [], alts := [], laidByText := true, laidKinds := [.data, .pinned], laidTests := true, laidLooks := .later }
def FnExactStateStartCardSaid : Prop := Claim7.holds Tryz.pinned (.plain (OpenSpec.ofChange fnExactStateStartSpec)) fnExactStateStartCard

/-- THE TIED CARD OF 'laws.FnExactStateStep'. -/
def fnExactStateStepCard : Claim7 := { stood := { row := fnExactStateStepRow, standIns := [], harness := (true, "cbed2e95ed3cbdfa0a2db63f27befb0902665bfd43e7f7c11be651aa585baf9a"), looks := true }, kinds := [], alts := [], laidByText := true, laidKinds := [.data, .data, .data, .data, .pinned], laidTests := true, laidLooks := .later }
def FnExactStateStepCardSaid : Prop := Claim7.holds Tryz.pinned (.plain (OpenSpec.ofChange fnExactStateStepSpec)) fnExactStateStepCard

/-- THE TIED CARD OF 'laws.FnExactStateEnd'. -/
def fnExactStateEndCard : Claim7 := { stood := { row := fnExactStateEndRow, standIns := [], harness := (true, "cbed2e95ed3cbdfa0a2db63f27befb0902665bfd43e7f7c11be651aa585baf9a"), looks := true }, kinds := [], alts := [], laidByText := true, laidKinds := [.data, .data, .data, .data, .pinned], laidTests := true, laidLooks := .later }
def FnExactStateEndCardSaid : Prop := Claim7.holds Tryz.pinned (.plain (OpenSpec.ofChange fnExactStateEndSpec)) fnExactStateEndCard

/-- THE TIED CARD OF 'laws.FnExactStateStuck'. -/
def fnExactStateStuckCard : Claim7 := { stood := { row := fnExactStateStuckRow, standIns := [], harness := (true, "cbed2e95ed3cbdfa0a2db63f27befb0902665bfd43e7f7c11be651aa585baf9a"), looks := true }, kinds := [], alts := [], laidByText := true, laidKinds := [.data, .data, .data, .data, .pinned], laidTests := true, laidLooks := .later }
def FnExactStateStuckCardSaid : Prop := Claim7.holds Tryz.pinned (.plain (OpenSpec.ofChange fnExactStateStuckSpec)) fnExactStateStuckCard

/-- THE TIED CARD OF 'laws.FnExactStatePlug'. -/
def fnExactStatePlugCard : Claim7 := { stood := { row := fnExactStatePlugRow, standIns := [], harness := (true, "cbed2e95ed3cbdfa0a2db63f27befb0902665bfd43e7f7c11be651aa585baf9a"), looks := true }, kinds := [], alts := [], laidByText := true, laidKinds := [.data, .data, .data, .data, .pinned], laidTests := true, laidLooks := .later }
def FnExactStatePlugCardSaid : Prop := Claim7.holds Tryz.pinned (.plain (OpenSpec.ofChange fnExactStatePlugSpec)) fnExactStatePlugCard

/-- THE TIED CARD OF 'laws.FnExactRun'. -/
def fnExactRunCard : Claim7 := { stood := { row := fnExactRunRow, standIns := [], harness := (true, "cbed2e95ed3cbdfa0a2db63f27befb0902665bfd43e7f7c11be651aa585baf9a"), looks := true }, kinds := [], alts := [], laidByText := true, laidKinds := [.data, .data, .data, .data, .pinned], laidTests := true, laidLooks := .later }
def FnExactRunCardSaid : Prop := Claim7.holds Tryz.pinned (.plain (OpenSpec.ofChange fnExactRunSpec)) fnExactRunCard

/-- THE TIED CARD OF 'laws.FnExactRunStuck'. -/
def fnExactRunStuckCard : Claim7 := { stood := { row := fnExactRunStuckRow, standIns := [], harness := (true, "cbed2e95ed3cbdfa0a2db63f27befb0902665bfd43e7f7c11be651aa585baf9a"), looks := true }, kinds := [], alts := [], laidByText := true, laidKinds := [.data, .data, .data, .data, .pinned], laidTests := true, laidLooks := .later }
def FnExactRunStuckCardSaid : Prop := Claim7.holds Tryz.pinned (.plain (OpenSpec.ofChange fnExactRunStuckSpec)) fnExactRunStuckCard

/-- THE TIED CARD OF 'laws.FnExactRunMany'. -/
def fnExactRunManyCard : Claim7 := { stood := { row := fnExactRunManyRow, standIns := [], harness := (true, "cbed2e95ed3cbdfa0a2db63f27befb0902665bfd43e7f7c11be651aa585baf9a"), looks := true }, kinds := [], alts := [], laidByText := true, laidKinds := [.data, .data, .data, .data, .pinned], laidTests := true, laidLooks := .later }
def FnExactRunManyCardSaid : Prop := Claim7.holds Tryz.pinned (.plain (OpenSpec.ofChange fnExactRunManySpec)) fnExactRunManyCard

/-- THE SECOND FORM's CARD OF 'laws.FnProgress'. -/
def fnProgressUptoCard : Claim7 := { stood := { row := fnProgressUptoRow, standIns := [], harness := (true, "cbed2e95ed3cbdfa0a2db63f27befb0902665bfd43e7f7c11be651aa585baf9a"), looks := true }, kinds := [], alts := [], laidByText := true, laidKinds := [.data, .data, .data, .data, .pinned], laidTests := true, laidLooks := .later }
def FnProgressUptoCardSaid : Prop := Claim7.holds Tryz.pinned (.plain (OpenSpec.upto fnProgressSpec)) fnProgressUptoCard

/-- THE SECOND FORM's CARD OF 'laws.FnRunStuck'. -/
def fnRunStuckUptoCard : Claim7 := { stood := { row := fnRunStuckUptoRow, standIns := [], harness := (true, "cbed2e95ed3cbdfa0a2db63f27befb0902665bfd43e7f7c11be651aa585baf9a"), looks := true }, kinds := [], alts := [], laidByText := true, laidKinds := [.data, .data, .data, .data, .pinned], laidTests := true, laidLooks := .later }
def FnRunStuckUptoCardSaid : Prop := Claim7.holds Tryz.pinned (.plain (OpenSpec.upto fnRunStuckSpec)) fnRunStuckUptoCard

/-- THE SECOND FORM's CARD OF 'laws.FnExactTermType'. -/
def fnExactTermTypeUptoCard : Claim7 := { stood := { row := fnExactTermTypeUptoRow, standIns := [], harness := (true, "cbed2e95ed3cbdfa0a2db63f27befb0902665bfd43e7f7c11be651aa585baf9a"), looks := true }, kinds := [], alts := [], laidByText := true, laidKinds := [.data, .pinned], laidTests := true, laidLooks := .later }
def FnExactTermTypeUptoCardSaid : Prop := Claim7.holds Tryz.pinned (.plain (OpenSpec.upto fnExactTermTypeSpec)) fnExactTermTypeUptoCard

/-- THE SECOND FORM's CARD OF 'laws.FnExactStateValid'. -/
def fnExactStateValidUptoCard : Claim7 := { stood := { row := fnExactStateValidUptoRow, standIns := [], harness := (true, "cbed2e95ed3cbdfa0a2db63f27befb0902665bfd43e7f7c11be651aa585baf9a"), looks := true }, kinds := [], alts := [], laidByText := true, laidKinds := [.data, .data, .data, .data, .pinned], laidTests := true, laidLooks := .later }
def FnExactStateValidUptoCardSaid : Prop := Claim7.holds Tryz.pinned (.plain (OpenSpec.upto fnExactStateValidSpec)) fnExactStateValidUptoCard

/-- THE SECOND FORM's CARD OF 'laws.FnExactStateStart'. -/
def fnExactStateStartUptoCard : Claim7 := { stood := { row := fnExactStateStartUptoRow, standIns := [], harness := (true, "cbed2e95ed3cbdfa0a2db63f27befb0902665bfd43e7f7c11be651aa585baf9a"), looks := true }, kinds := [], alts := [], laidByText := true, laidKinds := [.data, .pinned], laidTests := true, laidLooks := .later }
def FnExactStateStartUptoCardSaid : Prop := Claim7.holds Tryz.pinned (.plain (OpenSpec.upto fnExactStateStartSpec)) fnExactStateStartUptoCard

/-- THE SECOND FORM's CARD OF 'laws.FnExactStateStep'. -/
def fnExactStateStepUptoCard : Claim7 := { stood := { row := fnExactStateStepUptoRow, standIns := [], harness := (true, "cbed2e95ed3cbdfa0a2db63f27befb0902665bfd43e7f7c11be651aa585baf9a"), looks := true }, kinds := [], alts := [], laidByText := true, laidKinds := [.data, .data, .data, .data, .pinned], laidTests := true, laidLooks := .later }
def FnExactStateStepUptoCardSaid : Prop := Claim7.holds Tryz.pinned (.plain (OpenSpec.upto fnExactStateStepSpec)) fnExactStateStepUptoCard

/-- THE SECOND FORM's CARD OF 'laws.FnExactStateEnd'. -/
def fnExactStateEndUptoCard : Claim7 := { stood := { row := fnExactStateEndUptoRow, standIns := [], harness := (true, "cbed2e95ed3cbdfa0a2db63f27befb0902665bfd43e7f7c11be651aa585baf9a"), looks := true }, kinds := [], alts := [], laidByText := true, laidKinds := [.data, .data, .data, .data, .pinned], laidTests := true, laidLooks := .later }
def FnExactStateEndUptoCardSaid : Prop := Claim7.holds Tryz.pinned (.plain (OpenSpec.upto fnExactStateEndSpec)) fnExactStateEndUptoCard

/-- THE SECOND FORM's CARD OF 'laws.FnExactStateStuck'. -/
def fnExactStateStuckUptoCard : Claim7 := { stood := { row := fnExactStateStuckUptoRow, standIns := [], harness := (true, "cbed2e95ed3cbdfa0a2db63f27befb0902665bfd43e7f7c11be651aa585baf9a"), looks := true }, kinds := [], alts := [], laidByText := true, laidKinds := [.data, .data, .data, .data, .pinned], laidTests := true, laidLooks := .later }
def FnExactStateStuckUptoCardSaid : Prop := Claim7.holds Tryz.pinned (.plain (OpenSpec.upto fnExactStateStuckSpec)) fnExactStateStuckUptoCard

/-- THE SECOND FORM's CARD OF 'laws.FnExactStatePlug'. -/
def fnExactStatePlugUptoCard : Claim7 := { stood := { row := fnExactStatePlugUptoRow, standIns := [], harness := (true, "cbed2e95ed3cbdfa0a2db63f27befb0902665bfd43e7f7c11be651aa585baf9a"), looks := true }, kinds := [], alts := [], laidByText := true, laidKinds := [.data, .data, .data, .data, .pinned], laidTests := true, laidLooks := .later }
def FnExactStatePlugUptoCardSaid : Prop := Claim7.holds Tryz.pinned (.plain (OpenSpec.upto fnExactStatePlugSpec)) fnExactStatePlugUptoCard

/-- THE SECOND FORM's CARD OF 'laws.FnExactRun'. -/
def fnExactRunUptoCard : Claim7 := { stood := { row := fnExactRunUptoRow, standIns := [], harness := (true, "cbed2e95ed3cbdfa0a2db63f27befb0902665bfd43e7f7c11be651aa585baf9a"), looks := true }, kinds := [], alts := [], laidByText := true, laidKinds := [.data, .data, .data, .data, .pinned], laidTests := true, laidLooks := .later }
def FnExactRunUptoCardSaid : Prop := Claim7.holds Tryz.pinned (.plain (OpenSpec.upto fnExactRunSpec)) fnExactRunUptoCard

/-- THE SECOND FORM's CARD OF 'laws.FnExactRunStuck'. -/
def fnExactRunStuckUptoCard : Claim7 := { stood := { row := fnExactRunStuckUptoRow, standIns := [], harness := (true, "cbed2e95ed3cbdfa0a2db63f27befb0902665bfd43e7f7c11be651aa585baf9a"), looks := true }, kinds := [], alts := [], laidByText := true, laidKinds := [.data, .data, .data, .data, .pinned], laidTests := true, laidLooks := .later }
def FnExactRunStuckUptoCardSaid : Prop := Claim7.holds Tryz.pinned (.plain (OpenSpec.upto fnExactRunStuckSpec)) fnExactRunStuckUptoCard

/-- THE SECOND FORM's CARD OF 'laws.FnExactRunMany'. -/
def fnExactRunManyUptoCard : Claim7 := { stood := { row := fnExactRunManyUptoRow, standIns := [], harness := (true, "cbed2e95ed3cbdfa0a2db63f27befb0902665bfd43e7f7c11be651aa585baf9a"), looks := true }, kinds := [], alts := [], laidByText := true, laidKinds := [.data, .data, .data, .data, .pinned], laidTests := true, laidLooks := .later }
def FnExactRunManyUptoCardSaid : Prop := Claim7.holds Tryz.pinned (.plain (OpenSpec.upto fnExactRunManySpec)) fnExactRunManyUptoCard
end Rows
end Go.Proofs.YtiipofgnoabhoaaGreatDoor
