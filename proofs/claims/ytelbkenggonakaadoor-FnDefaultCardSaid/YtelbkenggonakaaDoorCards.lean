/-
  DERIVED. GIVEN WITH THE SEED: THE CARDS: each row of YtelbkenggonakaaDoorRows.lean that lists a variable, with what it lists TIED to the program's text (the seventh form; the later family's looks); each row that meets fmt, with fmt's text TOLD by the authors' own Lean function (tested against real Go, not proved from fmt's source: count such statements apart). THE CARD IS WHAT COUNTS. Prove the row's statement (the work); the ties are given (YtelbkenggonakaaDoorTie.lean); close each card by the builder's one call (the guide's Derived/Test/ToyasCard.lean, 'card_holds'). Laid BY PROGRAM, IN A SANDBOX (cutbox-door.mjs). By AI agents, Wed Nov 11 2026. No macro, syntax, notation, axiom, sorry.
-/
import Derived.Test.YtelbkenggonakaaDoorRows
import GoSem.ClaimSeven
namespace Go.Proofs.YtelbkenggonakaaDoor
namespace Rows

/-- THE TIED CARD OF 'laws.FnDefault'. -/
def fnDefaultCard : Claim7 := { stood := { row := fnDefaultRow, standIns := [], harness := (true, "f649b5b4a4305a59f41248f94c52a9025fd196449ec3cf69da2a43fd4c1eff1a"), looks := false }, kinds := [], alts := [], laidByText := true, laidKinds := [.data, .pinned], laidTests := true, laidLooks := .later }
def FnDefaultCardSaid : Prop := Claim7.holds Tryd.pinned (.plain (OpenSpec.ofChange fnDefaultSpec)) fnDefaultCard

/-- THE SECOND FORM's CARD OF 'laws.FnDefault'. -/
def fnDefaultUptoCard : Claim7 := { stood := { row := fnDefaultUptoRow, standIns := [], harness := (true, "f649b5b4a4305a59f41248f94c52a9025fd196449ec3cf69da2a43fd4c1eff1a"), looks := false }, kinds := [], alts := [], laidByText := true, laidKinds := [.data, .pinned], laidTests := true, laidLooks := .later }
def FnDefaultUptoCardSaid : Prop := Claim7.holds Tryd.pinned (.plain (OpenSpec.upto fnDefaultSpec)) fnDefaultUptoCard
end Rows
end Go.Proofs.YtelbkenggonakaaDoor
