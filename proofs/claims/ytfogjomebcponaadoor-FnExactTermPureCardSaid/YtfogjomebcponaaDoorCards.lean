/-
  DERIVED. GIVEN WITH THE SEED: THE CARDS: each row of YtfogjomebcponaaDoorRows.lean that lists a variable, with what it lists TIED to the program's text (the seventh form; the later family's looks); each row that meets fmt, with fmt's text TOLD by the authors' own Lean function (tested against real Go, not proved from fmt's source: count such statements apart). THE CARD IS WHAT COUNTS. Prove the row's statement (the work); the ties are given (YtfogjomebcponaaDoorTie.lean); close each card by the builder's one call (the guide's Derived/Test/ToyasCard.lean, 'card_holds'). Laid BY PROGRAM, IN A SANDBOX (cutbox-door.mjs). By AI agents, Wed Nov 11 2026. No macro, syntax, notation, axiom, sorry.
-/
import Derived.Test.YtfogjomebcponaaDoorRows
import GoSem.ClaimSeven
namespace Go.Proofs.YtfogjomebcponaaDoor
namespace Rows

/-- THE TIED CARD OF 'laws.FnExactTermOf'. -/
def fnExactTermOfCard : Claim7 := { stood := { row := fnExactTermOfRow, standIns := [], harness := (true, "897a37c9e91203633906c3a077c77837afa25640ea5fed30c91394ba09edfbf7"), looks := true }, kinds := [], alts := [], laidByText := true, laidKinds := [.data, .data, .data], laidTests := true, laidLooks := .later }
def FnExactTermOfCardSaid : Prop := Claim7.holds Tryd.pinned (.plain (OpenSpec.ofChange fnExactTermOfSpec)) fnExactTermOfCard

/-- THE TIED CARD OF 'laws.FnExactTermPure'. -/
def fnExactTermPureCard : Claim7 := { stood := { row := fnExactTermPureRow, standIns := [], harness := (true, "897a37c9e91203633906c3a077c77837afa25640ea5fed30c91394ba09edfbf7"), looks := true }, kinds := [], alts := [], laidByText := true, laidKinds := [.data, .pinned], laidTests := true, laidLooks := .later }
def FnExactTermPureCardSaid : Prop := Claim7.holds Tryd.pinned (.plain (OpenSpec.ofChange fnExactTermPureSpec)) fnExactTermPureCard

/-- THE SECOND FORM's CARD OF 'laws.FnExactTermOf'. -/
def fnExactTermOfUptoCard : Claim7 := { stood := { row := fnExactTermOfUptoRow, standIns := [], harness := (true, "897a37c9e91203633906c3a077c77837afa25640ea5fed30c91394ba09edfbf7"), looks := true }, kinds := [], alts := [], laidByText := true, laidKinds := [.data, .data, .data], laidTests := true, laidLooks := .later }
def FnExactTermOfUptoCardSaid : Prop := Claim7.holds Tryd.pinned (.plain (OpenSpec.upto fnExactTermOfSpec)) fnExactTermOfUptoCard

/-- THE SECOND FORM's CARD OF 'laws.FnExactTermPure'. -/
def fnExactTermPureUptoCard : Claim7 := { stood := { row := fnExactTermPureUptoRow, standIns := [], harness := (true, "897a37c9e91203633906c3a077c77837afa25640ea5fed30c91394ba09edfbf7"), looks := true }, kinds := [], alts := [], laidByText := true, laidKinds := [.data, .pinned], laidTests := true, laidLooks := .later }
def FnExactTermPureUptoCardSaid : Prop := Claim7.holds Tryd.pinned (.plain (OpenSpec.upto fnExactTermPureSpec)) fnExactTermPureUptoCard
end Rows
end Go.Proofs.YtfogjomebcponaaDoor
