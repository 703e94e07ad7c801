/-
  DERIVED. GIVEN WITH THE SEED: THE CARDS: each row of YtfogjomebcponaaGreatDoorRows.lean that lists a variable, with what it lists TIED to the program's text (the seventh form; the later family's looks); each row that meets fmt, with fmt's text TOLD by the authors' own Lean function (tested against real Go, not proved from fmt's source: count such statements apart). THE CARD IS WHAT COUNTS. Prove the row's statement (the work); the ties are given (YtfogjomebcponaaGreatDoorTie.lean); close each card by the builder's one call (the guide's Derived/Test/ToyasCard.lean, 'card_holds'). Laid BY PROGRAM, IN A SANDBOX (cutbox-door.mjs). By AI agents, Wed Nov 11 2026. No macro, syntax, notation, axiom, sorry.
-/
import Derived.Test.YtfogjomebcponaaGreatDoorRows
import GoSem.ClaimSeven
namespace Go.Proofs.YtfogjomebcponaaGreatDoor
namespace Rows

/-- THE TIED CARD OF 'laws.FnExactTermType'. -/
def fnExactTermTypeCard : Claim7 := { stood := { row := fnExactTermTypeRow, standIns := [], harness := (true, "093e9ad6b2bdf0502f96ef6b9fde3ad4d09c3c7e2f80e9508681bedb056a06b4"), looks := true }, kinds := [], alts := [], laidByText := true, laidKinds := [.data, .pinned], laidTests := true, laidLooks := .later }
def FnExactTermTypeCardSaid : Prop := Claim7.holds Tryz.pinned (.plain (OpenSpec.ofChange fnExactTermTypeSpec)) fnExactTermTypeCard

/-- THE TIED CARD OF 'laws.FnExactTermTyped'. -/
def fnExactTermTypedCard : Claim7 := { stood := { row := fnExactTermTypedRow, standIns := [], harness := (true, "093e9ad6b2bdf0502f96ef6b9fde3ad4d09c3c7e2f80e9508681bedb056a06b4"), looks := true }, kinds := [], alts := [], laidByText := true, laidKinds := [.data, .pinned], laidTests := true, laidLooks := .later }
def FnExactTermTypedCardSaid : Prop := Claim7.holds Tryz.pinned (.plain (OpenSpec.ofChange fnExactTermTypedSpec)) fnExactTermTypedCard

/-- THE TIED CARD OF 'laws.FnExactTermFault'. -/
def fnExactTermFaultCard : Claim7 := { stood := { row := fnExactTermFaultRow, standIns := [], harness := (true, "093e9ad6b2bdf0502f96ef6b9fde3ad4d09c3c7e2f80e9508681bedb056a06b4"), looks := true }, kinds := [], alts := [], laidByText := true, laidKinds := [.data, .pinned], laidTests := true, laidLooks := .later }
def FnExactTermFaultCardSaid : Prop := Claim7.holds Tryz.pinned (.plain (OpenSpec.ofChange fnExactTermFaultSpec)) fnExactTermFaultCard

/-- THE TIED CARD OF 'laws.FnFault'. -/
def fnFaultCard : Claim7 := { stood := { row := fnFaultRow, standIns := [], harness := (true, "093e9ad6b2bdf0502f96ef6b9fde3ad4d09c3c7e2f80e9508681bedb056a06b4"), looks := true }, kinds := [], alts := [], laidByText := true, laidKinds := [.data, .pinned], laidTests := true, laidLooks := .later }
def FnFaultCardSaid : Prop := Claim7.holds Tryz.pinned (.plain (OpenSpec.ofChange fnFaultSpec)) fnFaultCard

/-- THE TIED CARD OF 'laws.FnSubstitute'. -/
def fnSubstituteCard : Claim7 := { stood := { row := fnSubstituteRow, standIns := [], harness := (true, "093e9ad6b2bdf0502f96ef6b9fde3ad4d09c3c7e2f80e9508681bedb056a06b4"), looks := true }, kinds := [], alts := [], laidByText := true, laidKinds := [.data, .data, .data, .data, .pinned], laidTests := true, laidLooks := .later }
def FnSubstituteCardSaid : Prop := Claim7.holds Tryz.pinned (.plain (OpenSpec.ofChange fnSubstituteSpec)) fnSubstituteCard

/-- THE SECOND FORM's CARD OF 'laws.FnExactTermType'. -/
def fnExactTermTypeUptoCard : Claim7 := { stood := { row := fnExactTermTypeUptoRow, standIns := [], harness := (true, "093e9ad6b2bdf0502f96ef6b9fde3ad4d09c3c7e2f80e9508681bedb056a06b4"), looks := true }, kinds := [], alts := [], laidByText := true, laidKinds := [.data, .pinned], laidTests := true, laidLooks := .later }
def FnExactTermTypeUptoCardSaid : Prop := Claim7.holds Tryz.pinned (.plain (OpenSpec.upto fnExactTermTypeSpec)) fnExactTermTypeUptoCard

/-- THE SECOND FORM's CARD OF 'laws.FnExactTermTyped'. -/
def fnExactTermTypedUptoCard : Claim7 := { stood := { row := fnExactTermTypedUptoRow, standIns := [], harness := (true, "093e9ad6b2bdf0502f96ef6b9fde3ad4d09c3c7e2f80e9508681bedb056a06b4"), looks := true }, kinds := [], alts := [], laidByText := true, laidKinds := [.data, .pinned], laidTests := true, laidLooks := .later }
def FnExactTermTypedUptoCardSaid : Prop := Claim7.holds Tryz.pinned (.plain (OpenSpec.upto fnExactTermTypedSpec)) fnExactTermTypedUptoCard

/-- THE SECOND FORM's CARD OF 'laws.FnExactTermFault'. -/
def fnExactTermFaultUptoCard : Claim7 := { stood := { row := fnExactTermFaultUptoRow, standIns := [], harness := (true, "093e9ad6b2bdf0502f96ef6b9fde3ad4d09c3c7e2f80e9508681bedb056a06b4"), looks := true }, kinds := [], alts := [], laidByText := true, laidKinds := [.data, .pinned], laidTests := true, laidLooks := .later }
def FnExactTermFaultUptoCardSaid : Prop := Claim7.holds Tryz.pinned (.plain (OpenSpec.upto fnExactTermFaultSpec)) fnExactTermFaultUptoCard

/-- THE SECOND FORM's CARD OF 'laws.FnFault'. -/
def fnFaultUptoCard : Claim7 := { stood := { row := fnFaultUptoRow, standIns := [], harness := (true, "093e9ad6b2bdf0502f96ef6b9fde3ad4d09c3c7e2f80e9508681bedb056a06b4"), looks := true }, kinds := [], alts := [], laidByText := true, laidKinds := [.data, .pinned], laidTests := true, laidLooks := .later }
def FnFaultUptoCardSaid : Prop := Claim7.holds Tryz.pinned (.plain (OpenSpec.upto fnFaultSpec)) fnFaultUptoCard

/-- THE SECOND FORM's CARD OF 'laws.FnSubstitute'. -/
def fnSubstituteUptoCard : Claim7 := { stood := { row := fnSubstituteUptoRow, standIns := [], harness := (true, "093e9ad6b2bdf0502f96ef6b9fde3ad4d09c3c7e2f80e9508681bedb056a06b4"), looks := true }, kinds := [], alts := [], laidByText := true, laidKinds := [.data, .data, .data, .data, .pinned], laidTests := true, laidLooks := .later }
def FnSubstituteUptoCardSaid : Prop := Claim7.holds Tryz.pinned (.plain (OpenSpec.upto fnSubstituteSpec)) fnSubstituteUptoCard
end Rows
end Go.Proofs.YtfogjomebcponaaGreatDoor
