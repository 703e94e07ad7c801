/-
  DERIVED. GIVEN WITH THE SEED: THE CARDS: each row of YtocegmgdbmbkkaaGreatDoorRows.lean that lists a variable, with what it lists TIED to the program's text (the seventh form; the later family's looks); each row that meets fmt, with fmt's text TOLD by the authors' own Lean function (tested against real Go, not proved from fmt's source: count such statements apart). THE CARD IS WHAT COUNTS. Prove the row's statement (the work); the ties are given (YtocegmgdbmbkkaaGreatDoorTie.lean); close each card by the builder's one call (the guide's Derived/Test/ToyasCard.lean, 'card_holds'). Laid BY PROGRAM, IN A SANDBOX (cutbox-door.mjs). By AI agents, Wed Nov 11 2026. No macro, syntax, notation, axiom, sorry.
-/
import Derived.Test.YtocegmgdbmbkkaaGreatDoorRows
import GoSem.ClaimSeven
namespace Go.Proofs.YtocegmgdbmbkkaaGreatDoor
namespace Rows

/-- THE TIED CARD OF 'laws.FnExactDefine'. -/
def fnExactDefineCard : Claim7 := { stood := { row := fnExactDefineRow, standIns := [], harness := (true, "3d997dc42ea22622a11e06f06d7ed2800e388eb5d4251e0a5535547c1cb7cd7e"), looks := true }, kinds := [], alts := [], laidByText := true, laidKinds := [.data, .data, .data, .data, .pinned], laidTests := true, laidLooks := .later }
def FnExactDefineCardSaid : Prop := Claim7.holds Tryz.pinned (.plain (OpenSpec.ofChange fnExactDefineSpec)) fnExactDefineCard

/-- THE TIED CARD OF 'laws.FnExactDefineSize'. -/
def fnExactDefineSizeCard : Claim7 := { stood := { row := fnExactDefineSizeRow, standIns := [], harness := (true, "3d997dc42ea22622a11e06f06d7ed2800e388eb5d4251e0a5535547c1cb7cd7e"), looks := true }, kinds := [], alts := [], laidByText := true, laidKinds := [.data, .data, .data, .data, .pinned], laidTests := true, laidLooks := .later }
def FnExactDefineSizeCardSaid : Prop := Claim7.holds Tryz.pinned (.plain (OpenSpec.ofChange fnExactDefineSizeSpec)) fnExactDefineSizeCard

/-- THE TIED CARD OF 'laws.FnExactTestValue'. -/
def fnExactTestValueCard : Claim7 := { stood := { row := fnExactTestValueRow, standIns := [], harness := (true, "3d997dc42ea22622a11e06f06d7ed2800e388eb5d4251e0a5535547c1cb7cd7e"), looks := true }, kinds := [], alts := [], laidByText := true, laidKinds := [.data, .data, .data, .data, .pinned], laidTests := true, laidLooks := .later }
def FnExactTestValueCardSaid : Prop := Claim7.holds Tryz.pinned (.plain (OpenSpec.ofChange fnExactTestValueSpec)) fnExactTestValueCard

/-- THE SECOND FORM's CARD OF 'laws.FnExactDefine'. -/
def fnExactDefineUptoCard : Claim7 := { stood := { row := fnExactDefineUptoRow, standIns := [], harness := (true, "3d997dc42ea22622a11e06f06d7ed2800e388eb5d4251e0a5535547c1cb7cd7e"), looks := true }, kinds := [], alts := [], laidByText := true, laidKinds := [.data, .data, .data, .data, .pinned], laidTests := true, laidLooks := .later }
def FnExactDefineUptoCardSaid : Prop := Claim7.holds Tryz.pinned (.plain (OpenSpec.upto fnExactDefineSpec)) fnExactDefineUptoCard

/-- THE SECOND FORM's CARD OF 'laws.FnExactDefineSize'. -/
def fnExactDefineSizeUptoCard : Claim7 := { stood := { row := fnExactDefineSizeUptoRow, standIns := [], harness := (true, "3d997dc42ea22622a11e06f06d7ed2800e388eb5d4251e0a5535547c1cb7cd7e"), looks := true }, kinds := [], alts := [], laidByText := true, laidKinds := [.data, .data, .data, .data, .pinned], laidTests := true, laidLooks := .later }
def FnExactDefineSizeUptoCardSaid : Prop := Claim7.holds Tryz.pinned (.plain (OpenSpec.upto fnExactDefineSizeSpec)) fnExactDefineSizeUptoCard

/-- THE SECOND FORM's CARD OF 'laws.FnExactTestValue'. -/
def fnExactTestValueUptoCard : Claim7 := { stood := { row := fnExactTestValueUptoRow, standIns := [], harness := (true, "3d997dc42ea22622a11e06f06d7ed2800e388eb5d4251e0a5535547c1cb7cd7e"), looks := true }, kinds := [], alts := [], laidByText := true, laidKinds := [.data, .data, .data, .data, .pinned], laidTests := true, laidLooks := .later }
def FnExactTestValueUptoCardSaid : Prop := Claim7.holds Tryz.pinned (.plain (OpenSpec.upto fnExactTestValueSpec)) fnExactTestValueUptoCard
end Rows
end Go.Proofs.YtocegmgdbmbkkaaGreatDoor
