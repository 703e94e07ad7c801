/-
  DERIVED. GIVEN WITH THE SEED: THE CARDS: each row of YtdeahcejbdcmpaaGreatDoorRows.lean that lists a variable, with what it lists TIED to the program's text (the seventh form; the later family's looks); each row that meets fmt, with fmt's text TOLD by the authors' own Lean function (tested against real Go, not proved from fmt's source: count such statements apart). THE CARD IS WHAT COUNTS. Prove the row's statement (the work); the ties are given (YtdeahcejbdcmpaaGreatDoorTie.lean); close each card by the builder's one call (the guide's Derived/Test/ToyasCard.lean, 'card_holds'). Laid BY PROGRAM, IN A SANDBOX (cutbox-door.mjs). By AI agents, Wed Nov 11 2026. No macro, syntax, notation, axiom, sorry.
-/
import Derived.Test.YtdeahcejbdcmpaaGreatDoorRows
import GoSem.ClaimSeven
namespace Go.Proofs.YtdeahcejbdcmpaaGreatDoor
namespace Rows

/-- THE TIED CARD OF 'laws.FnExactTermType'. -/
def fnExactTermTypeCard : Claim7 := { stood := { row := fnExactTermTypeRow, standIns := [], harness := (true, "016d82d035a4e1ffcbf055574112bfc9e42d5a432b8ec9aed666a9d55cad7f33"), looks := true }, kinds := [], alts := [], laidByText := true, laidKinds := [.data, .pinned], laidTests := true, laidLooks := .later }
def FnExactTermTypeCardSaid : Prop := Claim7.holds Tryz.pinned (.plain (OpenSpec.ofChange fnExactTermTypeSpec)) fnExactTermTypeCard

/-- THE TIED CARD OF 'laws.FnExactTermTyped'. -/
def fnExactTermTypedCard : Claim7 := { stood := { row := fnExactTermTypedRow, standIns := [], harness := (true, "016d82d035a4e1ffcbf055574112bfc9e42d5a432b8ec9aed666a9d55cad7f33"), looks := true }, kinds := [], alts := [], laidByText := true, laidKinds := [.data, .pinned], laidTests := true, laidLooks := .later }
def FnExactTermTypedCardSaid : Prop := Claim7.holds Tryz.pinned (.plain (OpenSpec.ofChange fnExactTermTypedSpec)) fnExactTermTypedCard

/-- THE TIED CARD OF 'laws.FnExactTermFault'. -/
def fnExactTermFaultCard : Claim7 := { stood := { row := fnExactTermFaultRow, standIns := [], harness := (true, "016d82d035a4e1ffcbf055574112bfc9e42d5a432b8ec9aed666a9d55cad7f33"), looks := true }, kinds := [], alts := [], laidByText := true, laidKinds := [.data, .pinned], laidTests := true, laidLooks := .later }
def FnExactTermFaultCardSaid : Prop := Claim7.holds Tryz.pinned (.plain (OpenSpec.ofChange fnExactTermFaultSpec)) fnExactTermFaultCard

/-- THE TIED CARD OF 'laws.FnExactStateStart'. -/
def fnExactStateStartCard : Claim7 := { stood := { row := fnExactStateStartRow, standIns := [], harness := (true, "016d82d035a4e1ffcbf055574112bfc9e42d5a432b8ec9aed666a9d55cad7f33"), looks := true }, kinds := [], alts := [], laidByText := true, laidKinds := [.data, .pinned], laidTests := true, laidLooks := .later }
def FnExactStateStartCardSaid : Prop := Claim7.holds Tryz.pinned (.plain (OpenSpec.ofChange fnExactStateStartSpec)) fnExactStateStartCard

/-- THE TIED CARD OF 'laws.FnExactStatePlug'. -/
def fnExactStatePlugCard : Claim7 := { stood := { row := fnExactStatePlugRow, standIns := [], harness := (true, "016d82d035a4e1ffcbf055574112bfc9e42d5a432b8ec9aed666a9d55cad7f33"), looks := true }, kinds := [], alts := [], laidByText := true, laidKinds := [.data, .data, .data, .data, .pinned], laidTests := true, laidLooks := .later }
def FnExactStatePlugCardSaid : Prop := Claim7.holds Tryz.pinned (.plain (OpenSpec.ofChange fnExactStatePlugSpec)) fnExactStatePlugCard

/-- THE TIED CARD OF 'laws.FnExactRun'. -/
def fnExactRunCard : Claim7 := { stood := { row := fnExactRunRow, standIns := [], harness := (true, "016d82d035a4e1ffcbf055574112bfc9e42d5a432b8ec9aed666a9d55cad7f33"), looks := true }, kinds := [], alts := [], laidByText := true, laidKinds := [.data, .data, .data, .data, .pinned], laidTests := true, laidLooks := .later }
def FnExactRunCardSaid : Prop := Claim7.holds Tryz.pinned (.plain (OpenSpec.ofChange fnExactRunSpec)) fnExactRunCard

/-- THE TIED CARD OF 'laws.FnExactRunStuck'. -/
def fnExactRunStuckCard : Claim7 := { stood := { row := fnExactRunStuckRow, standIns := [], harness := (true, "016d82d035a4e1ffcbf055574112bfc9e42d5a432b8ec9aed666a9d55cad7f33"), looks := true }, kinds := [], alts := [], laidByText := true, laidKinds := [.data, .data, .data, .data, .pinned], laidTests := true, laidLooks := .later }
def FnExactRunStuckCardSaid : Prop := Claim7.holds Tryz.pinned (.plain (OpenSpec.ofChange fnExactRunStuckSpec)) fnExactRunStuckCard

/-- THE TIED CARD OF 'laws.FnExactRunMany'. -/
def fnExactRunManyCard : Claim7 := { stood := { row := fnExactRunManyRow, standIns := [], harness := (true, "016d82d035a4e1ffcbf055574112bfc9e42d5a432b8ec9aed666a9d55cad7f33"), looks := true }, kinds := [], alts := [], laidByText := true, laidKinds := [.data, .data, .data, .data, .pinned], laidTests := true, laidLooks := .later }
def FnExactRunManyCardSaid : Prop := Claim7.holds Tryz.pinned (.plain (OpenSpec.ofChange fnExactRunManySpec)) fnExactRunManyCard

/-- THE TIED CARD OF 'laws.FnTermType'. -/
def fnTermTypeCard : Claim7 := { stood := { row := fnTermTypeRow, standIns := [], harness := (true, "016d82d035a4e1ffcbf055574112bfc9e42d5a432b8ec9aed666a9d55cad7f33"), looks := true }, kinds := [], alts := [], laidByText := true, laidKinds := [.data, .data, .data, .data, .pinned], laidTests := true, laidLooks := .later }
def FnTermTypeCardSaid : Prop := Claim7.holds Tryz.pinned (.plain (OpenSpec.ofChange fnTermTypeSpec)) fnTermTypeCard

/-- THE SECOND FORM's CARD OF 'laws.FnExactTermType'. -/
def fnExactTermTypeUptoCard : Claim7 := { stood := { row := fnExactTermTypeUptoRow, standIns := [], harness := (true, "016d82d035a4e1ffcbf055574112bfc9e42d5a432b8ec9aed666a9d55cad7f33"), looks := true }, kinds := [], alts := [], laidByText := true, laidKinds := [.data, .pinned], laidTests := true, laidLooks := .later }
def FnExactTermTypeUptoCardSaid : Prop := Claim7.holds Tryz.pinned (.plain (OpenSpec.upto fnExactTermTypeSpec)) fnExactTermTypeUptoCard

/-- THE SECOND FORM's CARD OF 'laws.FnExactTermTyped'. -/
def fnExactTermTypedUptoCard : Claim7 := { stood := { row := fnExactTermTypedUptoRow, standIns := [], harness := (true, "016d82d035a4e1ffcbf055574112bfc9e42d5a432b8ec9aed666a9d55cad7f33"), looks := true }, kinds := [], alts := [], laidByText := true, laidKinds := [.data, .pinned], laidTests := true, laidLooks := .later }
def FnExactTermTypedUptoCardSaid : Prop := Claim7.holds Tryz.pinned (.plain (OpenSpec.upto fnExactTermTypedSpec)) fnExactTermTypedUptoCard

/-- THE SECOND FORM's CARD OF 'laws.FnExactTermFault'. -/
def fnExactTermFaultUptoCard : Claim7 := { stood := { row := fnExactTermFaultUptoRow, standIns := [], harness := (true, "016d82d035a4e1ffcbf055574112bfc9e42d5a432b8ec9aed666a9d55cad7f33"), looks := true }, kinds := [], alts := [], laidByText := true, laidKinds := [.data, .pinned], laidTests := true, laidLooks := .later }
def FnExactTermFaultUptoCardSaid : Prop := Claim7.holds Tryz.pinned (.plain (OpenSpec.upto fnExactTermFaultSpec)) fnExactTermFaultUptoCard

/-- THE SECOND FORM's CARD OF 'laws.FnExactStateStart'. -/
def fnExactStateStartUptoCard : Claim7 := { stood := { row := fnExactStateStartUptoRow, standIns := [], harness := (true, "016d82d035a4e1ffcbf055574112bfc9e42d5a432b8ec9aed666a9d55cad7f33"), looks := true }, kinds := [], alts := [], laidByText := true, laidKinds := [.data, .pinned], laidTests := true, laidLooks := .later }
def FnExactStateStartUptoCardSaid : Prop := Claim7.holds Tryz.pinned (.plain (OpenSpec.upto fnExactStateStartSpec)) fnExactStateStartUptoCard

/-- THE SECOND FORM's CARD OF 'laws.FnExactStatePlug'. -/
def fnExactStatePlugUptoCard : Claim7 := { stood := { row := fnExactStatePlugUptoRow, standIns := [], harness := (true, "016d82d035a4e1ffcbf055574112bfc9e42d5a432b8ec9aed666a9d55cad7f33"), looks := true }, kinds := [], alts := [], laidByText := true, laidKinds := [.data, .data, .data, .data, .pinned], laidTests := true, laidLooks := .later }
def FnExactStatePlugUptoCardSaid : Prop := Claim7.holds Tryz.pinned (.plain (OpenSpec.upto fnExactStatePlugSpec)) fnExactStatePlugUptoCard

/-- THE SECOND FORM's CARD OF 'laws.FnExactRun'. -/
def fnExactRunUptoCard : Claim7 := { stood := { row := fnExactRunUptoRow, standIns := [], harness := (true, "016d82d035a4e1ffcbf055574112bfc9e42d5a432b8ec9aed666a9d55cad7f33"), looks := true }, kinds := [], alts := [], laidByText := true, laidKinds := [.data, .data, .data, .data, .pinned], laidTests := true, laidLooks := .later }
def FnExactRunUptoCardSaid : Prop := Claim7.holds Tryz.pinned (.plain (OpenSpec.upto fnExactRunSpec)) fnExactRunUptoCard

/-- THE SECOND FORM's CARD OF 'laws.FnExactRunStuck'. -/
def fnExactRunStuckUptoCard : Claim7 := { stood := { row := fnExactRunStuckUptoRow, standIns := [], harness := (true, "016d82d035a4e1ffcbf055574112bfc9e42d5a432b8ec9aed666a9d55cad7f33"), looks := true }, kinds := [], alts := [], laidByText := true, laidKinds := [.data, .data, .data, .data, .pinned], laidTests := true, laidLooks := .later }
def FnExactRunStuckUptoCardSaid : Prop := Claim7.holds Tryz.pinned (.plain (OpenSpec.upto fnExactRunStuckSpec)) fnExactRunStuckUptoCard

/-- THE SECOND FORM's CARD OF 'laws.FnExactRunMany'. -/
def fnExactRunManyUptoCard : Claim7 := { stood := { row := fnExactRunManyUptoRow, standIns := [], harness := (true, "016d82d035a4e1ffcbf055574112bfc9e42d5a432b8ec9aed666a9d55cad7f33"), looks := true }, kinds := [], alts := [], laidByText := true, laidKinds := [.data, .data, .data, .data, .pinned], laidTests := true, laidLooks := .later }
def FnExactRunManyUptoCardSaid : Prop := Claim7.holds Tryz.pinned (.plain (OpenSpec.upto fnExactRunManySpec)) fnExactRunManyUptoCard

/-- THE SECOND FORM's CARD OF 'laws.FnTermType'. -/
def fnTermTypeUptoCard : Claim7 := { stood := { row := fnTermTypeUptoRow, standIns := [], harness := (true, "016d82d035a4e1ffcbf055574112bfc9e42d5a432b8ec9aed666a9d55cad7f33"), looks := true }, kinds := [], alts := [], laidByText := true, laidKinds := [.data, .data, .data, .data, .pinned], laidTests := true, laidLooks := .later }
def FnTermTypeUptoCardSaid : Prop := Claim7.holds Tryz.pinned (.plain (OpenSpec.upto fnTermTypeSpec)) fnTermTypeUptoCard
end Rows
end Go.Proofs.YtdeahcejbdcmpaaGreatDoor
