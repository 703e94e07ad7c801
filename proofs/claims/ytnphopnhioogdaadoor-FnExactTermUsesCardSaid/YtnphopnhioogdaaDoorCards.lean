/-
  DERIVED. GIVEN WITH THE SEED: THE CARDS: each row of YtnphopnhioogdaaDoorRows.lean that lists a variable, with what it lists TIED to the program's text (the seventh form; the later family's looks); each row that meets fmt, with fmt's text TOLD by the authors' own Lean function (tested against real Go, not proved from fmt's source: count such statements apart). THE CARD IS WHAT COUNTS. Prove the row's statement (the work); the ties are given (YtnphopnhioogdaaDoorTie.lean); close each card by the builder's one call (the guide's Derived/Test/ToyasCard.lean, 'card_holds'). Laid BY PROGRAM, IN A SANDBOX (cutbox-door.mjs). By AI agents, Wed Nov 11 2026. No macro, syntax, notation, axiom, sorry.
-/
import Derived.Test.YtnphopnhioogdaaDoorRows
import GoSem.ClaimSeven
namespace Go.Proofs.YtnphopnhioogdaaDoor
namespace Rows

/-- THE TIED CARD OF 'laws.FnEnv'. -/
def fnEnvCard : Claim7 := { stood := { row := fnEnvRow, standIns := [], harness := (true, "367cc3659dd319a5584437f51bfeb84eba187d32bd72d01e8d846ac486768f4c"), looks := false }, kinds := [], alts := [], laidByText := true, laidKinds := [.data, .pinned], laidTests := true, laidLooks := .later }
def FnEnvCardSaid : Prop := Claim7.holds Tryd.pinned (.plain (OpenSpec.ofChange fnEnvSpec)) fnEnvCard

/-- THE TIED CARD OF 'laws.FnExactTermSort'. -/
def fnExactTermSortCard : Claim7 := { stood := { row := fnExactTermSortRow, standIns := [], harness := (true, "367cc3659dd319a5584437f51bfeb84eba187d32bd72d01e8d846ac486768f4c"), looks := false }, kinds := [], alts := [], laidByText := true, laidKinds := [.data, .pinned], laidTests := true, laidLooks := .later }
def FnExactTermSortCardSaid : Prop := Claim7.holds Tryd.pinned (.plain (OpenSpec.ofChange fnExactTermSortSpec)) fnExactTermSortCard

/-- THE TIED CARD OF 'laws.FnExactTermHead'. -/
def fnExactTermHeadCard : Claim7 := { stood := { row := fnExactTermHeadRow, standIns := [], harness := (true, "367cc3659dd319a5584437f51bfeb84eba187d32bd72d01e8d846ac486768f4c"), looks := false }, kinds := [], alts := [], laidByText := true, laidKinds := [.data, .pinned], laidTests := true, laidLooks := .later }
def FnExactTermHeadCardSaid : Prop := Claim7.holds Tryd.pinned (.plain (OpenSpec.ofChange fnExactTermHeadSpec)) fnExactTermHeadCard

/-- THE TIED CARD OF 'laws.FnExactTermFree'. -/
def fnExactTermFreeCard : Claim7 := { stood := { row := fnExactTermFreeRow, standIns := [], harness := (true, "367cc3659dd319a5584437f51bfeb84eba187d32bd72d01e8d846ac486768f4c"), looks := false }, kinds := [], alts := [], laidByText := true, laidKinds := [.data, .pinned], laidTests := true, laidLooks := .later }
def FnExactTermFreeCardSaid : Prop := Claim7.holds Tryd.pinned (.plain (OpenSpec.ofChange fnExactTermFreeSpec)) fnExactTermFreeCard

/-- THE TIED CARD OF 'laws.FnExactTermClosed'. -/
def fnExactTermClosedCard : Claim7 := { stood := { row := fnExactTermClosedRow, standIns := [], harness := (true, "367cc3659dd319a5584437f51bfeb84eba187d32bd72d01e8d846ac486768f4c"), looks := false }, kinds := [], alts := [], laidByText := true, laidKinds := [.data, .pinned], laidTests := true, laidLooks := .later }
def FnExactTermClosedCardSaid : Prop := Claim7.holds Tryd.pinned (.plain (OpenSpec.ofChange fnExactTermClosedSpec)) fnExactTermClosedCard

/-- THE TIED CARD OF 'laws.FnExactTermSize'. -/
def fnExactTermSizeCard : Claim7 := { stood := { row := fnExactTermSizeRow, standIns := [], harness := (true, "367cc3659dd319a5584437f51bfeb84eba187d32bd72d01e8d846ac486768f4c"), looks := false }, kinds := [], alts := [], laidByText := true, laidKinds := [.data, .pinned], laidTests := true, laidLooks := .later }
def FnExactTermSizeCardSaid : Prop := Claim7.holds Tryd.pinned (.plain (OpenSpec.ofChange fnExactTermSizeSpec)) fnExactTermSizeCard

/-- THE TIED CARD OF 'laws.FnExactTermUses'. -/
def fnExactTermUsesCard : Claim7 := { stood := { row := fnExactTermUsesRow, standIns := [], harness := (true, "367cc3659dd319a5584437f51bfeb84eba187d32bd72d01e8d846ac486768f4c"), looks := false }, kinds := [], alts := [], laidByText := true, laidKinds := [.data, .pinned], laidTests := true, laidLooks := .later }
def FnExactTermUsesCardSaid : Prop := Claim7.holds Tryd.pinned (.plain (OpenSpec.ofChange fnExactTermUsesSpec)) fnExactTermUsesCard

/-- THE TIED CARD OF 'laws.FnExactEnvValid'. -/
def fnExactEnvValidCard : Claim7 := { stood := { row := fnExactEnvValidRow, standIns := [], harness := (true, "367cc3659dd319a5584437f51bfeb84eba187d32bd72d01e8d846ac486768f4c"), looks := false }, kinds := [], alts := [], laidByText := true, laidKinds := [.data, .pinned], laidTests := true, laidLooks := .later }
def FnExactEnvValidCardSaid : Prop := Claim7.holds Tryd.pinned (.plain (OpenSpec.ofChange fnExactEnvValidSpec)) fnExactEnvValidCard

/-- THE TIED CARD OF 'laws.FnExactEnvLook'. -/
def fnExactEnvLookCard : Claim7 := { stood := { row := fnExactEnvLookRow, standIns := [], harness := (true, "367cc3659dd319a5584437f51bfeb84eba187d32bd72d01e8d846ac486768f4c"), looks := false }, kinds := [], alts := [], laidByText := true, laidKinds := [.data, .pinned], laidTests := true, laidLooks := .later }
def FnExactEnvLookCardSaid : Prop := Claim7.holds Tryd.pinned (.plain (OpenSpec.ofChange fnExactEnvLookSpec)) fnExactEnvLookCard

/-- THE SECOND FORM's CARD OF 'laws.FnEnv'. -/
def fnEnvUptoCard : Claim7 := { stood := { row := fnEnvUptoRow, standIns := [], harness := (true, "367cc3659dd319a5584437f51bfeb84eba187d32bd72d01e8d846ac486768f4c"), looks := false }, kinds := [], alts := [], laidByText := true, laidKinds := [.data, .pinned], laidTests := true, laidLooks := .later }
def FnEnvUptoCardSaid : Prop := Claim7.holds Tryd.pinned (.plain (OpenSpec.upto fnEnvSpec)) fnEnvUptoCard

/-- THE SECOND FORM's CARD OF 'laws.FnExactTermSort'. -/
def fnExactTermSortUptoCard : Claim7 := { stood := { row := fnExactTermSortUptoRow, standIns := [], harness := (true, "367cc3659dd319a5584437f51bfeb84eba187d32bd72d01e8d846ac486768f4c"), looks := false }, kinds := [], alts := [], laidByText := true, laidKinds := [.data, .pinned], laidTests := true, laidLooks := .later }
def FnExactTermSortUptoCardSaid : Prop := Claim7.holds Tryd.pinned (.plain (OpenSpec.upto fnExactTermSortSpec)) fnExactTermSortUptoCard

/-- THE SECOND FORM's CARD OF 'laws.FnExactTermHead'. -/
def fnExactTermHeadUptoCard : Claim7 := { stood := { row := fnExactTermHeadUptoRow, standIns := [], harness := (true, "367cc3659dd319a5584437f51bfeb84eba187d32bd72d01e8d846ac486768f4c"), looks := false }, kinds := [], alts := [], laidByText := true, laidKinds := [.data, .pinned], laidTests := true, laidLooks := .later }
def FnExactTermHeadUptoCardSaid : Prop := Claim7.holds Tryd.pinned (.plain (OpenSpec.upto fnExactTermHeadSpec)) fnExactTermHeadUptoCard

/-- THE SECOND FORM's CARD OF 'laws.FnExactTermFree'. -/
def fnExactTermFreeUptoCard : Claim7 := { stood := { row := fnExactTermFreeUptoRow, standIns := [], harness := (true, "367cc3659dd319a5584437f51bfeb84eba187d32bd72d01e8d846ac486768f4c"), looks := false }, kinds := [], alts := [], laidByText := true, laidKinds := [.data, .pinned], laidTests := true, laidLooks := .later }
def FnExactTermFreeUptoCardSaid : Prop := Claim7.holds Tryd.pinned (.plain (OpenSpec.upto fnExactTermFreeSpec)) fnExactTermFreeUptoCard

/-- THE SECOND FORM's CARD OF 'laws.FnExactTermClosed'. -/
def fnExactTermClosedUptoCard : Claim7 := { stood := { row := fnExactTermClosedUptoRow, standIns := [], harness := (true, "367cc3659dd319a5584437f51bfeb84eba187d32bd72d01e8d846ac486768f4c"), looks := false }, kinds := [], alts := [], laidByText := true, laidKinds := [.data, .pinned], laidTests := true, laidLooks := .later }
def FnExactTermClosedUptoCardSaid : Prop := Claim7.holds Tryd.pinned (.plain (OpenSpec.upto fnExactTermClosedSpec)) fnExactTermClosedUptoCard

/-- THE SECOND FORM's CARD OF 'laws.FnExactTermSize'. -/
def fnExactTermSizeUptoCard : Claim7 := { stood := { row := fnExactTermSizeUptoRow, standIns := [], harness := (true, "367cc3659dd319a5584437f51bfeb84eba187d32bd72d01e8d846ac486768f4c"), looks := false }, kinds := [], alts := [], laidByText := true, laidKinds := [.data, .pinned], laidTests := true, laidLooks := .later }
def FnExactTermSizeUptoCardSaid : Prop := Claim7.holds Tryd.pinned (.plain (OpenSpec.upto fnExactTermSizeSpec)) fnExactTermSizeUptoCard

/-- THE SECOND FORM's CARD OF 'laws.FnExactTermUses'. -/
def fnExactTermUsesUptoCard : Claim7 := { stood := { row := fnExactTermUsesUptoRow, standIns := [], harness := (true, "367cc3659dd319a5584437f51bfeb84eba187d32bd72d01e8d846ac486768f4c"), looks := false }, kinds := [], alts := [], laidByText := true, laidKinds := [.data, .pinned], laidTests := true, laidLooks := .later }
def FnExactTermUsesUptoCardSaid : Prop := Claim7.holds Tryd.pinned (.plain (OpenSpec.upto fnExactTermUsesSpec)) fnExactTermUsesUptoCard

/-- THE SECOND FORM's CARD OF 'laws.FnExactEnvValid'. -/
def fnExactEnvValidUptoCard : Claim7 := { stood := { row := fnExactEnvValidUptoRow, standIns := [], harness := (true, "367cc3659dd319a5584437f51bfeb84eba187d32bd72d01e8d846ac486768f4c"), looks := false }, kinds := [], alts := [], laidByText := true, laidKinds := [.data, .pinned], laidTests := true, laidLooks := .later }
def FnExactEnvValidUptoCardSaid : Prop := Claim7.holds Tryd.pinned (.plain (OpenSpec.upto fnExactEnvValidSpec)) fnExactEnvValidUptoCard

/-- THE SECOND FORM's CARD OF 'laws.FnExactEnvLook'. -/
def fnExactEnvLookUptoCard : Claim7 := { stood := { row := fnExactEnvLookUptoRow, standIns := [], harness := (true, "367cc3659dd319a5584437f51bfeb84eba187d32bd72d01e8d846ac486768f4c"), looks := false }, kinds := [], alts := [], laidByText := true, laidKinds := [.data, .pinned], laidTests := true, laidLooks := .later }
def FnExactEnvLookUptoCardSaid : Prop := Claim7.holds Tryd.pinned (.plain (OpenSpec.upto fnExactEnvLookSpec)) fnExactEnvLookUptoCard
end Rows
end Go.Proofs.YtnphopnhioogdaaDoor
