/-
  No cell of these rows narrows 'for every input' (looked for: loops, veiled, ifaces, maps, wideKeys, modest, calm, conditions, laid).
  DERIVED. THE GIVEN ROWS OF THIS SEAT. 6 by the template 'for every input the law returns true; each argument reads behind the call as it read before'; 0 by the template 'total and deterministic' (their statements: YtamdinbjfbbicabTotals.lean).
  GIVEN WITH THE SEED: the statements are not yours to turn. If you find one false, say at which input.
  Laid BY PROGRAM, IN A SANDBOX (cutbox-rows.mjs): the forced cells as the released guide's own fill.sh prints them over the translation 3c734381775b5525… (all of the seat's roots in one cut). By AI agents, Wed Nov 11 2026. No macro, syntax, notation, axiom, sorry.
-/
import Derived.Test.YtamdinbjfbbicabChecked
import GoSem.Claim
import GoSem.ClaimJoined
import GoSem.ClaimMapViews
import Derived.JoinedTies
import Derived.KernelRfl
namespace Go.Proofs.Ytamdinbjfbbicab
/- THE CELL 'sum', in the pinned program and in every row, IS THE sha256 OF THE DUMP (.gsa) THAT YtamdinbjfbbicabProg.lean LOADS. Nothing in Lean hashes anything: it is a label: what it is worth is what the hold of that sum in a sandbox is worth. -/
noncomputable def Try.pinned : Pinned := { name := "ytamdinbjfbbicab", sum := "3c734381775b552579235a2ac625a4a80d4c9b39734d1861c2bef309119c73dc", checked := Try.checked }
namespace Rows
def none {H : Type} : Left H := { results := [], args := [] }

/-- 'laws.FnExactTypeKind': WHATEVER THE INPUT: true; the input reads as it did. -/
def fnExactTypeKindSpec : ChangeSpec := { name := "fnExactTypeKind", fn := fun _ => fun
  | [d] => { results := [.lit (.bool true)], args := [d] }
  | _ => none }
def fnExactTypeKindRow : OpenClaim := { program := "ytamdinbjfbbicab", sum := "3c734381775b552579235a2ac625a4a80d4c9b39734d1861c2bef309119c73dc", func := "loop.example/pushvalue/laws.FnExactTypeKind", spec := "fnExactTypeKind", unfollowed := true, recurses := true, apart := false }
def FnExactTypeKindSaid : Prop := fnExactTypeKindRow.holds Try.pinned (OpenSpec.ofChange fnExactTypeKindSpec)

/-- ITS FALSE NEIGHBOUR: 'it returns false'. Refute it at one input. -/
def fnExactTypeKindWrong : ChangeSpec := { name := "fnExactTypeKind", fn := fun _ => fun
  | [d] => { results := [.lit (.bool false)], args := [d] }
  | _ => none }
def FnExactTypeKindWrongFalsely : Prop := fnExactTypeKindRow.holds Try.pinned (OpenSpec.ofChange fnExactTypeKindWrong)

/-- 'laws.FnExactTypeHead': WHATEVER THE INPUT: true; the input reads as it did. -/
def fnExactTypeHeadSpec : ChangeSpec := { name := "fnExactTypeHead", fn := fun _ => fun
  | [d] => { results := [.lit (.bool true)], args := [d] }
  | _ => none }
def fnExactTypeHeadRow : OpenClaim := { program := "ytamdinbjfbbicab", sum := "3c734381775b552579235a2ac625a4a80d4c9b39734d1861c2bef309119c73dc", func := "loop.example/pushvalue/laws.FnExactTypeHead", spec := "fnExactTypeHead", unfollowed := true, recurses := true, apart := false }
def FnExactTypeHeadSaid : Prop := fnExactTypeHeadRow.holds Try.pinned (OpenSpec.ofChange fnExactTypeHeadSpec)

/-- ITS FALSE NEIGHBOUR: 'it returns false'. Refute it at one input. -/
def fnExactTypeHeadWrong : ChangeSpec := { name := "fnExactTypeHead", fn := fun _ => fun
  | [d] => { results := [.lit (.bool false)], args := [d] }
  | _ => none }
def FnExactTypeHeadWrongFalsely : Prop := fnExactTypeHeadRow.holds Try.pinned (OpenSpec.ofChange fnExactTypeHeadWrong)

/-- 'laws.FnExactTypeKids': WHATEVER THE INPUT: true; the input reads as it did. -/
def fnExactTypeKidsSpec : ChangeSpec := { name := "fnExactTypeKids", fn := fun _ => fun
  | [d] => { results := [.lit (.bool true)], args := [d] }
  | _ => none }
def fnExactTypeKidsRow : OpenClaim := { program := "ytamdinbjfbbicab", sum := "3c734381775b552579235a2ac625a4a80d4c9b39734d1861c2bef309119c73dc", func := "loop.example/pushvalue/laws.FnExactTypeKids", spec := "fnExactTypeKids", inPlace := ["internal/abi.NoEscape", "internal/bytealg.MakeNoZero"], unfollowed := true, recurses := true, apart := false }
def FnExactTypeKidsSaid : Prop := fnExactTypeKidsRow.holds Try.pinned (OpenSpec.ofChange fnExactTypeKidsSpec)

/-- ITS FALSE NEIGHBOUR: 'it returns false'. Refute it at one input. -/
def fnExactTypeKidsWrong : ChangeSpec := { name := "fnExactTypeKids", fn := fun _ => fun
  | [d] => { results := [.lit (.bool false)], args := [d] }
  | _ => none }
def FnExactTypeKidsWrongFalsely : Prop := fnExactTypeKidsRow.holds Try.pinned (OpenSpec.ofChange fnExactTypeKidsWrong)

/-- 'laws.FnExactTypePlain': WHATEVER THE INPUT: true; the input reads as it did. -/
def fnExactTypePlainSpec : ChangeSpec := { name := "fnExactTypePlain", fn := fun _ => fun
  | [d] => { results := [.lit (.bool true)], args := [d] }
  | _ => none }
def fnExactTypePlainRow : OpenClaim := { program := "ytamdinbjfbbicab", sum := "3c734381775b552579235a2ac625a4a80d4c9b39734d1861c2bef309119c73dc", func := "loop.example/pushvalue/laws.FnExactTypePlain", spec := "fnExactTypePlain", inPlace := ["internal/bytealg.IndexByteString", "internal/bytealg.IndexString"], unfollowed := true, recurses := true, named := ["internal/bytealg.MaxLen"], apart := false }
def FnExactTypePlainSaid : Prop := fnExactTypePlainRow.holds Try.pinned (OpenSpec.ofChange fnExactTypePlainSpec)

/-- ITS FALSE NEIGHBOUR: 'it returns false'. Refute it at one input. -/
def fnExactTypePlainWrong : ChangeSpec := { name := "fnExactTypePlain", fn := fun _ => fun
  | [d] => { results := [.lit (.bool false)], args := [d] }
  | _ => none }
def FnExactTypePlainWrongFalsely : Prop := fnExactTypePlainRow.holds Try.pinned (OpenSpec.ofChange fnExactTypePlainWrong)

/-- 'laws.FnExactTypeCount': WHATEVER THE INPUT: true; the input reads as it did. -/
def fnExactTypeCountSpec : ChangeSpec := { name := "fnExactTypeCount", fn := fun _ => fun
  | [d] => { results := [.lit (.bool true)], args := [d] }
  | _ => none }
def fnExactTypeCountRow : OpenClaim := { program := "ytamdinbjfbbicab", sum := "3c734381775b552579235a2ac625a4a80d4c9b39734d1861c2bef309119c73dc", func := "loop.example/pushvalue/laws.FnExactTypeCount", spec := "fnExactTypeCount", inPlace := ["internal/abi.NoEscape", "internal/bytealg.MakeNoZero"], unfollowed := true, recurses := true, apart := false }
def FnExactTypeCountSaid : Prop := fnExactTypeCountRow.holds Try.pinned (OpenSpec.ofChange fnExactTypeCountSpec)

/-- ITS FALSE NEIGHBOUR: 'it returns false'. Refute it at one input. -/
def fnExactTypeCountWrong : ChangeSpec := { name := "fnExactTypeCount", fn := fun _ => fun
  | [d] => { results := [.lit (.bool false)], args := [d] }
  | _ => none }
def FnExactTypeCountWrongFalsely : Prop := fnExactTypeCountRow.holds Try.pinned (OpenSpec.ofChange fnExactTypeCountWrong)

/-- 'laws.FnExactTypeThunk': WHATEVER THE INPUT: true; the input reads as it did. -/
def fnExactTypeThunkSpec : ChangeSpec := { name := "fnExactTypeThunk", fn := fun _ => fun
  | [d] => { results := [.lit (.bool true)], args := [d] }
  | _ => none }
def fnExactTypeThunkRow : OpenClaim := { program := "ytamdinbjfbbicab", sum := "3c734381775b552579235a2ac625a4a80d4c9b39734d1861c2bef309119c73dc", func := "loop.example/pushvalue/laws.FnExactTypeThunk", spec := "fnExactTypeThunk", unfollowed := true, recurses := true, apart := false }
def FnExactTypeThunkSaid : Prop := fnExactTypeThunkRow.holds Try.pinned (OpenSpec.ofChange fnExactTypeThunkSpec)

/-- ITS FALSE NEIGHBOUR: 'it returns false'. Refute it at one input. -/
def fnExactTypeThunkWrong : ChangeSpec := { name := "fnExactTypeThunk", fn := fun _ => fun
  | [d] => { results := [.lit (.bool false)], args := [d] }
  | _ => none }
def FnExactTypeThunkWrongFalsely : Prop := fnExactTypeThunkRow.holds Try.pinned (OpenSpec.ofChange fnExactTypeThunkWrong)

/- THE SECOND FORM. 'bulk': how many values and letters a reading holds, each counted each time it is reached (what is shared counts as often as it is met; a slice's spare places count too). A statement '..UptoSaid' is the law's where the arguments, and the package variables that the reading takes, are together of bulk at most 1048576: NARROWER than '..Said'. Prove '..Said' where nothing that the law and all that it calls make is longer than what came in: it says more and counts as full. Else prove '..UptoSaid'. A law counts once. -/
mutual
def uptoBulk {H : Type} : DataW H → Nat
  | .lit (.string bytes) => bytes.length + 1
  | .lit _ => 1
  | .nil => 1
  | .ptr d => uptoBulk d + 1
  | .slice elems spare => uptoBulkAll elems + uptoBulkAll spare + 1
  | .agg parts => uptoBulkAll parts + 1
  | .iface _ d => uptoBulk d + 1
  | .map entries => uptoBulkEntries entries + 1
  | .held _ => 1
def uptoBulkAll {H : Type} : List (DataW H) → Nat
  | [] => 0
  | d :: r => uptoBulk d + uptoBulkAll r
def uptoBulkEntries {H : Type} : List (Lit × DataW H) → Nat
  | [] => 0
  | x :: r => uptoBulkEntry x + uptoBulkEntries r
def uptoBulkEntry {H : Type} : Lit × DataW H → Nat
  | (.string bytes, d) => bytes.length + uptoBulk d + 1
  | (_, d) => uptoBulk d + 1
 end
def uptoSmall : (H : Type) → List (DataW H) → Bool := fun _ ds => decide (uptoBulkAll ds ≤ 1048576)
def OpenSpec.upto (s : _root_.Go.ChangeSpec) : _root_.Go.OpenSpec := { _root_.Go.OpenSpec.ofChange s with cond := some uptoSmall }

/-- 'laws.FnExactTypeKind', WHERE WHAT IT READS IS OF BULK AT MOST 1048576: true; the input reads as it did. -/
def fnExactTypeKindUptoRow : OpenClaim := { program := "ytamdinbjfbbicab", sum := "3c734381775b552579235a2ac625a4a80d4c9b39734d1861c2bef309119c73dc", func := "loop.example/pushvalue/laws.FnExactTypeKind", spec := "fnExactTypeKind", unfollowed := true, recurses := true, apart := false, narrowed := true }
def FnExactTypeKindUptoSaid : Prop := fnExactTypeKindUptoRow.holds Try.pinned (OpenSpec.upto fnExactTypeKindSpec)

/-- 'laws.FnExactTypeHead', WHERE WHAT IT READS IS OF BULK AT MOST 1048576: true; the input reads as it did. -/
def fnExactTypeHeadUptoRow : OpenClaim := { program := "ytamdinbjfbbicab", sum := "3c734381775b552579235a2ac625a4a80d4c9b39734d1861c2bef309119c73dc", func := "loop.example/pushvalue/laws.FnExactTypeHead", spec := "fnExactTypeHead", unfollowed := true, recurses := true, apart := false, narrowed := true }
def FnExactTypeHeadUptoSaid : Prop := fnExactTypeHeadUptoRow.holds Try.pinned (OpenSpec.upto fnExactTypeHeadSpec)

/-- 'laws.FnExactTypeKids', WHERE WHAT IT READS IS OF BULK AT MOST 1048576: true; the input reads as it did. -/
def fnExactTypeKidsUptoRow : OpenClaim := { program := "ytamdinbjfbbicab", sum := "3c734381775b552579235a2ac625a4a80d4c9b39734d1861c2bef309119c73dc", func := "loop.example/pushvalue/laws.FnExactTypeKids", spec := "fnExactTypeKids", inPlace := ["internal/abi.NoEscape", "internal/bytealg.MakeNoZero"], unfollowed := true, recurses := true, apart := false, narrowed := true }
def FnExactTypeKidsUptoSaid : Prop := fnExactTypeKidsUptoRow.holds Try.pinned (OpenSpec.upto fnExactTypeKidsSpec)

/-- 'laws.FnExactTypePlain', WHERE WHAT IT READS IS OF BULK AT MOST 1048576: true; the input reads as it did. -/
def fnExactTypePlainUptoRow : OpenClaim := { program := "ytamdinbjfbbicab", sum := "3c734381775b552579235a2ac625a4a80d4c9b39734d1861c2bef309119c73dc", func := "loop.example/pushvalue/laws.FnExactTypePlain", spec := "fnExactTypePlain", inPlace := ["internal/bytealg.IndexByteString", "internal/bytealg.IndexString"], unfollowed := true, recurses := true, named := ["internal/bytealg.MaxLen"], apart := false, narrowed := true }
def FnExactTypePlainUptoSaid : Prop := fnExactTypePlainUptoRow.holds Try.pinned (OpenSpec.upto fnExactTypePlainSpec)

/-- 'laws.FnExactTypeCount', WHERE WHAT IT READS IS OF BULK AT MOST 1048576: true; the input reads as it did. -/
def fnExactTypeCountUptoRow : OpenClaim := { program := "ytamdinbjfbbicab", sum := "3c734381775b552579235a2ac625a4a80d4c9b39734d1861c2bef309119c73dc", func := "loop.example/pushvalue/laws.FnExactTypeCount", spec := "fnExactTypeCount", inPlace := ["internal/abi.NoEscape", "internal/bytealg.MakeNoZero"], unfollowed := true, recurses := true, apart := false, narrowed := true }
def FnExactTypeCountUptoSaid : Prop := fnExactTypeCountUptoRow.holds Try.pinned (OpenSpec.upto fnExactTypeCountSpec)

/-- 'laws.FnExactTypeThunk', WHERE WHAT IT READS IS OF BULK AT MOST 1048576: true; the input reads as it did. -/
def fnExactTypeThunkUptoRow : OpenClaim := { program := "ytamdinbjfbbicab", sum := "3c734381775b552579235a2ac625a4a80d4c9b39734d1861c2bef309119c73dc", func := "loop.example/pushvalue/laws.FnExactTypeThunk", spec := "fnExactTypeThunk", unfollowed := true, recurses := true, apart := false, narrowed := true }
def FnExactTypeThunkUptoSaid : Prop := fnExactTypeThunkUptoRow.holds Try.pinned (OpenSpec.upto fnExactTypeThunkSpec)

end Rows
end Go.Proofs.Ytamdinbjfbbicab
