/-
  DERIVED. GIVEN WITH THE SEED: THE CARDS: each row of YtodjmbfhkklpaaaDoorRows.lean that lists a variable, with what it lists TIED to the program's text (the seventh form; the later family's looks); each row that meets fmt, with fmt's text TOLD by the authors' own Lean function (tested against real Go, not proved from fmt's source: count such statements apart). THE CARD IS WHAT COUNTS. Prove the row's statement (the work); the ties are given (YtodjmbfhkklpaaaDoorTie.lean); close each card by the builder's one call (the guide's Derived/Test/ToyasCard.lean, 'card_holds'). Laid BY PROGRAM, IN A SANDBOX (cutbox-door.mjs). By AI agents, Wed Nov 11 2026. No macro, syntax, notation, axiom, sorry.
-/
import Derived.Test.YtodjmbfhkklpaaaDoorRows
import GoSem.ClaimSeven
namespace Go.Proofs.YtodjmbfhkklpaaaDoor
namespace Rows

/-- THE TIED CARD OF 'laws.FnExactTermFree'. -/
def fnExactTermFreeCard : Claim7 := { stood := { row := fnExactTermFreeRow, standIns := [], harness := (true, "fc921ca785dfaa4d8fbf4d7d9b82f15b2afc4b9503726fb09103775283361f2c"), looks := false }, kinds := [], alts := [], laidByText := true, laidKinds := [.data, .pinned], laidTests := true, laidLooks := .later }
def FnExactTermFreeCardSaid : Prop := Claim7.holds Tryd.pinned (.plain (OpenSpec.ofChange fnExactTermFreeSpec)) fnExactTermFreeCard

/-- THE TIED CARD OF 'laws.FnExactTermClosed'. -/
def fnExactTermClosedCard : Claim7 := { stood := { row := fnExactTermClosedRow, standIns := [], harness := (true, "fc921ca785dfaa4d8fbf4d7d9b82f15b2afc4b9503726fb09103775283361f2c"), looks := false }, kinds := [], alts := [], laidByText := true, laidKinds := [.data, .pinned], laidTests := true, laidLooks := .later }
def FnExactTermClosedCardSaid : Prop := Claim7.holds Tryd.pinned (.plain (OpenSpec.ofChange fnExactTermClosedSpec)) fnExactTermClosedCard

/-- THE TIED CARD OF 'laws.FnExactTermSort'. -/
def fnExactTermSortCard : Claim7 := { stood := { row := fnExactTermSortRow, standIns := [], harness := (true, "fc921ca785dfaa4d8fbf4d7d9b82f15b2afc4b9503726fb09103775283361f2c"), looks := false }, kinds := [], alts := [], laidByText := true, laidKinds := [.data, .pinned], laidTests := true, laidLooks := .later }
def FnExactTermSortCardSaid : Prop := Claim7.holds Tryd.pinned (.plain (OpenSpec.ofChange fnExactTermSortSpec)) fnExactTermSortCard

/-- THE TIED CARD OF 'laws.FnExactTermHead'. -/
def fnExactTermHeadCard : Claim7 := { stood := { row := fnExactTermHeadRow, standIns := [], harness := (true, "fc921ca785dfaa4d8fbf4d7d9b82f15b2afc4b9503726fb09103775283361f2c"), looks := false }, kinds := [], alts := [], laidByText := true, laidKinds := [.data, .pinned], laidTests := true, laidLooks := .later }
def FnExactTermHeadCardSaid : Prop := Claim7.holds Tryd.pinned (.plain (OpenSpec.ofChange fnExactTermHeadSpec)) fnExactTermHeadCard

/-- THE SECOND FORM's CARD OF 'laws.FnExactTermFree'. -/
def fnExactTermFreeUptoCard : Claim7 := { stood := { row := fnExactTermFreeUptoRow, standIns := [], harness := (true, "fc921ca785dfaa4d8fbf4d7d9b82f15b2afc4b9503726fb09103775283361f2c"), looks := false }, kinds := [], alts := [], laidByText := true, laidKinds := [.data, .pinned], laidTests := true, laidLooks := .later }
def FnExactTermFreeUptoCardSaid : Prop := Claim7.holds Tryd.pinned (.plain (OpenSpec.upto fnExactTermFreeSpec)) fnExactTermFreeUptoCard

/-- THE SECOND FORM's CARD OF 'laws.FnExactTermClosed'. -/
def fnExactTermClosedUptoCard : Claim7 := { stood := { row := fnExactTermClosedUptoRow, standIns := [], harness := (true, "fc921ca785dfaa4d8fbf4d7d9b82f15b2afc4b9503726fb09103775283361f2c"), looks := false }, kinds := [], alts := [], laidByText := true, laidKinds := [.data, .pinned], laidTests := true, laidLooks := .later }
def FnExactTermClosedUptoCardSaid : Prop := Claim7.holds Tryd.pinned (.plain (OpenSpec.upto fnExactTermClosedSpec)) fnExactTermClosedUptoCard

/-- THE SECOND FORM's CARD OF 'laws.FnExactTermSort'. -/
def fnExactTermSortUptoCard : Claim7 := { stood := { row := fnExactTermSortUptoRow, standIns := [], harness := (true, "fc921ca785dfaa4d8fbf4d7d9b82f15b2afc4b9503726fb09103775283361f2c"), looks := false }, kinds := [], alts := [], laidByText := true, laidKinds := [.data, .pinned], laidTests := true, laidLooks := .later }
def FnExactTermSortUptoCardSaid : Prop := Claim7.holds Tryd.pinned (.plain (OpenSpec.upto fnExactTermSortSpec)) fnExactTermSortUptoCard

/-- THE SECOND FORM's CARD OF 'laws.FnExactTermHead'. -/
def fnExactTermHeadUptoCard : Claim7 := { stood := { row := fnExactTermHeadUptoRow, standIns := [], harness := (true, "fc921ca785dfaa4d8fbf4d7d9b82f15b2afc4b9503726fb09103775283361f2c"), looks := false }, kinds := [], alts := [], laidByText := true, laidKinds := [.data, .pinned], laidTests := true, laidLooks := .later }
def FnExactTermHeadUptoCardSaid : Prop := Claim7.holds Tryd.pinned (.plain (OpenSpec.upto fnExactTermHeadSpec)) fnExactTermHeadUptoCard
end Rows
end Go.Proofs.YtodjmbfhkklpaaaDoor
