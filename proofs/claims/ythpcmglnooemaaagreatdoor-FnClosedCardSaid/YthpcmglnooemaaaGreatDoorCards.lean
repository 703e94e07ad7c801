/-
  DERIVED. GIVEN WITH THE SEED: THE CARDS: each row of YthpcmglnooemaaaGreatDoorRows.lean that lists a variable, with what it lists TIED to the program's text (the seventh form; the later family's looks); each row that meets fmt, with fmt's text TOLD by the authors' own Lean function (tested against real Go, not proved from fmt's source: count such statements apart). THE CARD IS WHAT COUNTS. Prove the row's statement (the work); the ties are given (YthpcmglnooemaaaGreatDoorTie.lean); close each card by the builder's one call (the guide's Derived/Test/ToyasCard.lean, 'card_holds'). Laid BY PROGRAM, IN A SANDBOX (cutbox-door.mjs). By AI agents, Wed Nov 11 2026. No macro, syntax, notation, axiom, sorry.
-/
import Derived.Test.YthpcmglnooemaaaGreatDoorRows
import GoSem.ClaimSeven
namespace Go.Proofs.YthpcmglnooemaaaGreatDoor
namespace Rows

/-- THE TIED CARD OF 'laws.FnSort'. -/
def fnSortCard : Claim7 := { stood := { row := fnSortRow, standIns := [], harness := (true, "a2b8c24a4f2ac5d3c3779d4550dda4c0bd46cd3025294fc92f82c97d81503526"), looks := false }, kinds := [], alts := [], laidByText := true, laidKinds := [.data, .pinned], laidTests := true, laidLooks := .later }
def FnSortCardSaid : Prop := Claim7.holds Tryz.pinned (.plain (OpenSpec.ofChange fnSortSpec)) fnSortCard

/-- THE TIED CARD OF 'laws.FnTermHead'. -/
def fnTermHeadCard : Claim7 := { stood := { row := fnTermHeadRow, standIns := [], harness := (true, "a2b8c24a4f2ac5d3c3779d4550dda4c0bd46cd3025294fc92f82c97d81503526"), looks := false }, kinds := [], alts := [], laidByText := true, laidKinds := [.data, .pinned], laidTests := true, laidLooks := .later }
def FnTermHeadCardSaid : Prop := Claim7.holds Tryz.pinned (.plain (OpenSpec.ofChange fnTermHeadSpec)) fnTermHeadCard

/-- THE TIED CARD OF 'laws.FnTermKids'. -/
def fnTermKidsCard : Claim7 := { stood := { row := fnTermKidsRow, standIns := [], harness := (true, "a2b8c24a4f2ac5d3c3779d4550dda4c0bd46cd3025294fc92f82c97d81503526"), looks := false }, kinds := [], alts := [], laidByText := true, laidKinds := [.data, .pinned], laidTests := true, laidLooks := .later }
def FnTermKidsCardSaid : Prop := Claim7.holds Tryz.pinned (.plain (OpenSpec.ofChange fnTermKidsSpec)) fnTermKidsCard

/-- THE TIED CARD OF 'laws.FnFree'. -/
def fnFreeCard : Claim7 := { stood := { row := fnFreeRow, standIns := [], harness := (true, "a2b8c24a4f2ac5d3c3779d4550dda4c0bd46cd3025294fc92f82c97d81503526"), looks := false }, kinds := [], alts := [], laidByText := true, laidKinds := [.data, .pinned], laidTests := true, laidLooks := .later }
def FnFreeCardSaid : Prop := Claim7.holds Tryz.pinned (.plain (OpenSpec.ofChange fnFreeSpec)) fnFreeCard

/-- THE TIED CARD OF 'laws.FnClosed'. -/
def fnClosedCard : Claim7 := { stood := { row := fnClosedRow, standIns := [], harness := (true, "a2b8c24a4f2ac5d3c3779d4550dda4c0bd46cd3025294fc92f82c97d81503526"), looks := false }, kinds := [], alts := [], laidByText := true, laidKinds := [.data, .pinned], laidTests := true, laidLooks := .later }
def FnClosedCardSaid : Prop := Claim7.holds Tryz.pinned (.plain (OpenSpec.ofChange fnClosedSpec)) fnClosedCard

/-- THE TIED CARD OF 'laws.FnSize'. -/
def fnSizeCard : Claim7 := { stood := { row := fnSizeRow, standIns := [], harness := (true, "a2b8c24a4f2ac5d3c3779d4550dda4c0bd46cd3025294fc92f82c97d81503526"), looks := false }, kinds := [], alts := [], laidByText := true, laidKinds := [.data, .pinned], laidTests := true, laidLooks := .later }
def FnSizeCardSaid : Prop := Claim7.holds Tryz.pinned (.plain (OpenSpec.ofChange fnSizeSpec)) fnSizeCard

/-- THE TIED CARD OF 'laws.FnUses'. -/
def fnUsesCard : Claim7 := { stood := { row := fnUsesRow, standIns := [], harness := (true, "a2b8c24a4f2ac5d3c3779d4550dda4c0bd46cd3025294fc92f82c97d81503526"), looks := false }, kinds := [], alts := [], laidByText := true, laidKinds := [.data, .pinned], laidTests := true, laidLooks := .later }
def FnUsesCardSaid : Prop := Claim7.holds Tryz.pinned (.plain (OpenSpec.ofChange fnUsesSpec)) fnUsesCard

/-- THE TIED CARD OF 'laws.FnExactTermPut'. -/
def fnExactTermPutCard : Claim7 := { stood := { row := fnExactTermPutRow, standIns := [], harness := (true, "a2b8c24a4f2ac5d3c3779d4550dda4c0bd46cd3025294fc92f82c97d81503526"), looks := false }, kinds := [], alts := [], laidByText := true, laidKinds := [.data, .pinned], laidTests := true, laidLooks := .later }
def FnExactTermPutCardSaid : Prop := Claim7.holds Tryz.pinned (.plain (OpenSpec.ofChange fnExactTermPutSpec)) fnExactTermPutCard

/-- THE TIED CARD OF 'laws.FnExactTermKids'. -/
def fnExactTermKidsCard : Claim7 := { stood := { row := fnExactTermKidsRow, standIns := [], harness := (true, "a2b8c24a4f2ac5d3c3779d4550dda4c0bd46cd3025294fc92f82c97d81503526"), looks := false }, kinds := [], alts := [], laidByText := true, laidKinds := [.data, .pinned], laidTests := true, laidLooks := .later }
def FnExactTermKidsCardSaid : Prop := Claim7.holds Tryz.pinned (.plain (OpenSpec.ofChange fnExactTermKidsSpec)) fnExactTermKidsCard

/-- THE SECOND FORM's CARD OF 'laws.FnSort'. -/
def fnSortUptoCard : Claim7 := { stood := { row := fnSortUptoRow, standIns := [], harness := (true, "a2b8c24a4f2ac5d3c3779d4550dda4c0bd46cd3025294fc92f82c97d81503526"), looks := false }, kinds := [], alts := [], laidByText := true, laidKinds := [.data, .pinned], laidTests := true, laidLooks := .later }
def FnSortUptoCardSaid : Prop := Claim7.holds Tryz.pinned (.plain (OpenSpec.upto fnSortSpec)) fnSortUptoCard

/-- THE SECOND FORM's CARD OF 'laws.FnTermHead'. -/
def fnTermHeadUptoCard : Claim7 := { stood := { row := fnTermHeadUptoRow, standIns := [], harness := (true, "a2b8c24a4f2ac5d3c3779d4550dda4c0bd46cd3025294fc92f82c97d81503526"), looks := false }, kinds := [], alts := [], laidByText := true, laidKinds := [.data, .pinned], laidTests := true, laidLooks := .later }
def FnTermHeadUptoCardSaid : Prop := Claim7.holds Tryz.pinned (.plain (OpenSpec.upto fnTermHeadSpec)) fnTermHeadUptoCard

/-- THE SECOND FORM's CARD OF 'laws.FnTermKids'. -/
def fnTermKidsUptoCard : Claim7 := { stood := { row := fnTermKidsUptoRow, standIns := [], harness := (true, "a2b8c24a4f2ac5d3c3779d4550dda4c0bd46cd3025294fc92f82c97d81503526"), looks := false }, kinds := [], alts := [], laidByText := true, laidKinds := [.data, .pinned], laidTests := true, laidLooks := .later }
def FnTermKidsUptoCardSaid : Prop := Claim7.holds Tryz.pinned (.plain (OpenSpec.upto fnTermKidsSpec)) fnTermKidsUptoCard

/-- THE SECOND FORM's CARD OF 'laws.FnFree'. -/
def fnFreeUptoCard : Claim7 := { stood := { row := fnFreeUptoRow, standIns := [], harness := (true, "a2b8c24a4f2ac5d3c3779d4550dda4c0bd46cd3025294fc92f82c97d81503526"), looks := false }, kinds := [], alts := [], laidByText := true, laidKinds := [.data, .pinned], laidTests := true, laidLooks := .later }
def FnFreeUptoCardSaid : Prop := Claim7.holds Tryz.pinned (.plain (OpenSpec.upto fnFreeSpec)) fnFreeUptoCard

/-- THE SECOND FORM's CARD OF 'laws.FnClosed'. -/
def fnClosedUptoCard : Claim7 := { stood := { row := fnClosedUptoRow, standIns := [], harness := (true, "a2b8c24a4f2ac5d3c3779d4550dda4c0bd46cd3025294fc92f82c97d81503526"), looks := false }, kinds := [], alts := [], laidByText := true, laidKinds := [.data, .pinned], laidTests := true, laidLooks := .later }
def FnClosedUptoCardSaid : Prop := Claim7.holds Tryz.pinned (.plain (OpenSpec.upto fnClosedSpec)) fnClosedUptoCard

/-- THE SECOND FORM's CARD OF 'laws.FnSize'. -/
def fnSizeUptoCard : Claim7 := { stood := { row := fnSizeUptoRow, standIns := [], harness := (true, "a2b8c24a4f2ac5d3c3779d4550dda4c0bd46cd3025294fc92f82c97d81503526"), looks := false }, kinds := [], alts := [], laidByText := true, laidKinds := [.data, .pinned], laidTests := true, laidLooks := .later }
def FnSizeUptoCardSaid : Prop := Claim7.holds Tryz.pinned (.plain (OpenSpec.upto fnSizeSpec)) fnSizeUptoCard

/-- THE SECOND FORM's CARD OF 'laws.FnUses'. -/
def fnUsesUptoCard : Claim7 := { stood := { row := fnUsesUptoRow, standIns := [], harness := (true, "a2b8c24a4f2ac5d3c3779d4550dda4c0bd46cd3025294fc92f82c97d81503526"), looks := false }, kinds := [], alts := [], laidByText := true, laidKinds := [.data, .pinned], laidTests := true, laidLooks := .later }
def FnUsesUptoCardSaid : Prop := Claim7.holds Tryz.pinned (.plain (OpenSpec.upto fnUsesSpec)) fnUsesUptoCard

/-- THE SECOND FORM's CARD OF 'laws.FnExactTermPut'. -/
def fnExactTermPutUptoCard : Claim7 := { stood := { row := fnExactTermPutUptoRow, standIns := [], harness := (true, "a2b8c24a4f2ac5d3c3779d4550dda4c0bd46cd3025294fc92f82c97d81503526"), looks := false }, kinds := [], alts := [], laidByText := true, laidKinds := [.data, .pinned], laidTests := true, laidLooks := .later }
def FnExactTermPutUptoCardSaid : Prop := Claim7.holds Tryz.pinned (.plain (OpenSpec.upto fnExactTermPutSpec)) fnExactTermPutUptoCard

/-- THE SECOND FORM's CARD OF 'laws.FnExactTermKids'. -/
def fnExactTermKidsUptoCard : Claim7 := { stood := { row := fnExactTermKidsUptoRow, standIns := [], harness := (true, "a2b8c24a4f2ac5d3c3779d4550dda4c0bd46cd3025294fc92f82c97d81503526"), looks := false }, kinds := [], alts := [], laidByText := true, laidKinds := [.data, .pinned], laidTests := true, laidLooks := .later }
def FnExactTermKidsUptoCardSaid : Prop := Claim7.holds Tryz.pinned (.plain (OpenSpec.upto fnExactTermKidsSpec)) fnExactTermKidsUptoCard
end Rows
end Go.Proofs.YthpcmglnooemaaaGreatDoor
