/-
  DERIVED. GIVEN WITH THE SEED: THE CARDS: each row of YtjennpiogdcngabGreatDoorRows.lean that lists a variable, with what it lists TIED to the program's text (the seventh form; the later family's looks); each row that meets fmt, with fmt's text TOLD by the authors' own Lean function (tested against real Go, not proved from fmt's source: count such statements apart). THE CARD IS WHAT COUNTS. Prove the row's statement (the work); the ties are given (YtjennpiogdcngabGreatDoorTie.lean); close each card by the builder's one call (the guide's Derived/Test/ToyasCard.lean, 'card_holds'). Laid BY PROGRAM, IN A SANDBOX (cutbox-door.mjs). By AI agents, Wed Nov 11 2026. No macro, syntax, notation, axiom, sorry.
-/
import Derived.Test.YtjennpiogdcngabGreatDoorRows
import GoSem.ClaimSeven
namespace Go.Proofs.YtjennpiogdcngabGreatDoor
namespace Rows

/-- THE TIED CARD OF 'laws.FnExactTermFault'. -/
def fnExactTermFaultCard : Claim7 := { stood := { row := fnExactTermFaultRow, standIns := [], harness := (true, "b739579235cd36fb6c9e653d7b41f444f4963365d4bf1b122759923a8b71867c"), looks := true }, kinds := [], alts := [], laidByText := true, laidKinds := [.data, .pinned], laidTests := true, laidLooks := .later }
def FnExactTermFaultCardSaid : Prop := Claim7.holds Tryz.pinned (.plain (OpenSpec.ofChange fnExactTermFaultSpec)) fnExactTermFaultCard

/-- THE TIED CARD OF 'laws.FnTermType'. -/
def fnTermTypeCard : Claim7 := { stood := { row := fnTermTypeRow, standIns := [], harness := (true, "b739579235cd36fb6c9e653d7b41f444f4963365d4bf1b122759923a8b71867c"), looks := true }, kinds := [], alts := [], laidByText := true, laidKinds := [.data, .data, .data, .data, .pinned], laidTests := true, laidLooks := .later }
def FnTermTypeCardSaid : Prop := Claim7.holds Tryz.pinned (.plain (OpenSpec.ofChange fnTermTypeSpec)) fnTermTypeCard

/-- THE TIED CARD OF 'laws.FnTermOf'. -/
def fnTermOfCard : Claim7 := { stood := { row := fnTermOfRow, standIns := [], harness := (true, "b739579235cd36fb6c9e653d7b41f444f4963365d4bf1b122759923a8b71867c"), looks := true }, kinds := [], alts := [], laidByText := true, laidKinds := [.data, .pinned], laidTests := true, laidLooks := .later }
def FnTermOfCardSaid : Prop := Claim7.holds Tryz.pinned (.plain (OpenSpec.ofChange fnTermOfSpec)) fnTermOfCard

/-- THE TIED CARD OF 'laws.FnExactTermPut'. -/
def fnExactTermPutCard : Claim7 := { stood := { row := fnExactTermPutRow, standIns := [], harness := (true, "b739579235cd36fb6c9e653d7b41f444f4963365d4bf1b122759923a8b71867c"), looks := true }, kinds := [], alts := [], laidByText := true, laidKinds := [.data, .pinned], laidTests := true, laidLooks := .later }
def FnExactTermPutCardSaid : Prop := Claim7.holds Tryz.pinned (.plain (OpenSpec.ofChange fnExactTermPutSpec)) fnExactTermPutCard

/-- THE SECOND FORM's CARD OF 'laws.FnExactTermFault'. -/
def fnExactTermFaultUptoCard : Claim7 := { stood := { row := fnExactTermFaultUptoRow, standIns := [], harness := (true, "b739579235cd36fb6c9e653d7b41f444f4963365d4bf1b122759923a8b71867c"), looks := true }, kinds := [], alts := [], laidByText := true, laidKinds := [.data, .pinned], laidTests := true, laidLooks := .later }
def FnExactTermFaultUptoCardSaid : Prop := Claim7.holds Tryz.pinned (.plain (OpenSpec.upto fnExactTermFaultSpec)) fnExactTermFaultUptoCard

/-- THE SECOND FORM's CARD OF 'laws.FnTermType'. -/
def fnTermTypeUptoCard : Claim7 := { stood := { row := fnTermTypeUptoRow, standIns := [], harness := (true, "b739579235cd36fb6c9e653d7b41f444f4963365d4bf1b122759923a8b71867c"), looks := true }, kinds := [], alts := [], laidByText := true, laidKinds := [.data, .data, .data, .data, .pinned], laidTests := true, laidLooks := .later }
def FnTermTypeUptoCardSaid : Prop := Claim7.holds Tryz.pinned (.plain (OpenSpec.upto fnTermTypeSpec)) fnTermTypeUptoCard

/-- THE SECOND FORM's CARD OF 'laws.FnTermOf'. -/
def fnTermOfUptoCard : Claim7 := { stood := { row := fnTermOfUptoRow, standIns := [], harness := (true, "b739579235cd36fb6c9e653d7b41f444f4963365d4bf1b122759923a8b71867c"), looks := true }, kinds := [], alts := [], laidByText := true, laidKinds := [.data, .pinned], laidTests := true, laidLooks := .later }
def FnTermOfUptoCardSaid : Prop := Claim7.holds Tryz.pinned (.plain (OpenSpec.upto fnTermOfSpec)) fnTermOfUptoCard

/-- THE SECOND FORM's CARD OF 'laws.FnExactTermPut'. -/
def fnExactTermPutUptoCard : Claim7 := { stood := { row := fnExactTermPutUptoRow, standIns := [], harness := (true, "b739579235cd36fb6c9e653d7b41f444f4963365d4bf1b122759923a8b71867c"), looks := true }, kinds := [], alts := [], laidByText := true, laidKinds := [.data, .pinned], laidTests := true, laidLooks := .later }
def FnExactTermPutUptoCardSaid : Prop := Claim7.holds Tryz.pinned (.plain (OpenSpec.upto fnExactTermPutSpec)) fnExactTermPutUptoCard
end Rows
end Go.Proofs.YtjennpiogdcngabGreatDoor
