/-
  NARROWER THAN 'FOR EVERY INPUT', by the rows' own cells (each row's printed sentence says how): FnEnv: laid · FnExactTermSort: laid · FnExactTermHead: laid · FnExactTermFree: laid · FnExactTermClosed: laid · FnExactTermSize: laid · FnExactTermUses: laid · FnExactEnvValid: laid · FnExactEnvLook: laid.
  DERIVED. THE GIVEN ROWS OF THIS SEAT. 9 by the template 'for every input the law returns true; each argument reads behind the call as it read before'; 0 by the template 'total and deterministic' (their statements: YtnphopnhioogdaaDoorTotals.lean).
  GIVEN WITH THE SEED: the statements are not yours to turn. If you find one false, say at which input.
  Laid BY PROGRAM, IN A SANDBOX (cutbox-rows.mjs): the forced cells as the released guide's own fill.sh prints them over the translation 5debf858b7909aa1… (all of the seat's roots in one cut). By AI agents, Wed Nov 11 2026. No macro, syntax, notation, axiom, sorry.
-/
import Derived.Test.YtnphopnhioogdaaDoorChecked
import GoSem.PinnedTables
import GoSem.Claim
import GoSem.ClaimJoined
import GoSem.ClaimMapViews
import Derived.JoinedTies
import Derived.KernelRfl
namespace Go.Proofs.YtnphopnhioogdaaDoor
/- THE CELL 'sum', in the pinned program and in every row, IS THE sha256 OF THE DUMP (.gsa) THAT YtnphopnhioogdaaDoorProg.lean LOADS. Nothing in Lean hashes anything: it is a label: what it is worth is what the hold of that sum in a sandbox is worth. -/
noncomputable def Tryd.pinned : Pinned := { name := "ytnphopnhioogdaadoor", sum := "5debf858b7909aa1e0787f9417529de1c16a4ba38077d3e165034fc3ca462149", checked := Tryd.checked }
namespace Rows
def none {H : Type} : Left H := { results := [], args := [] }

/- WHAT THE LISTED PACKAGE-LEVEL VARIABLES READ AS WHEN THE CALL BEGINS. Each datum BY PROGRAM (the guide's laid-datum.mjs) off the statement by which the dump's own 'gosem.cut.vars' lays the variable. In a bare row this is a premise. The card (YtnphopnhioogdaaDoorCards.lean) ties it to the program's text. -/
def laid_unicode_utf8_acceptRanges {H : Type} : DataW H := .agg [.agg [.lit (.int .u8 128), .lit (.int .u8 191)], .agg [.lit (.int .u8 160), .lit (.int .u8 191)], .agg [.lit (.int .u8 128), .lit (.int .u8 159)], .agg [.lit (.int .u8 144), .lit (.int .u8 191)], .agg [.lit (.int .u8 128), .lit (.int .u8 143)], .agg [.lit (.int .u8 0), .lit (.int .u8 0)], .agg [.lit (.int .u8 0), .lit (.int .u8 0)], .agg [.lit (.int .u8 0), .lit (.int .u8 0)], .agg [.lit (.int .u8 0), .lit (.int .u8 0)], .agg [.lit (.int .u8 0), .lit (.int .u8 0)], .agg [.lit (.int .u8 0), .lit (.int .u8 0)], .agg [.lit (.int .u8 0), .lit (.int .u8 0)], .agg [.lit (.int .u8 0), .lit (.int .u8 0)], .agg [.lit (.int .u8 0), .lit (.int .u8 0)], .agg [.lit (.int .u8 0), .lit (.int .u8 0)], .agg [.lit (.int .u8 0), .lit (.int .u8 0)]]
/-- One of Go's own tables, pinned by name: the form's constant. -/
def laid_unicode_utf8_first : DataW Unit := Go.Pinned.utf8First

/-- 'laws.FnEnv': WHATEVER THE INPUT: true; the input reads as it did. -/
def fnEnvSpec : ChangeSpec := { name := "fnEnv", fn := fun _ => fun
  | [d] => { results := [.lit (.bool true)], args := [d] }
  | _ => none }
def fnEnvRow : OpenClaim := { program := "ytnphopnhioogdaadoor", sum := "5debf858b7909aa1e0787f9417529de1c16a4ba38077d3e165034fc3ca462149", func := "loop.example/pushvalue/laws.FnEnv", spec := "fnEnv", inPlace := ["internal/bytealg.IndexByteString", "internal/bytealg.IndexString", "internal/abi.NoEscape", "internal/bytealg.MakeNoZero"], unfollowed := true, recurses := true, named := ["unicode/utf8.first", "unicode/utf8.acceptRanges", "internal/bytealg.MaxLen"], apart := false, laid := [("unicode/utf8.acceptRanges", laid_unicode_utf8_acceptRanges), ("unicode/utf8.first", laid_unicode_utf8_first)] }
def FnEnvSaid : Prop := fnEnvRow.holds Tryd.pinned (OpenSpec.ofChange fnEnvSpec)

/-- ITS FALSE NEIGHBOUR: 'it returns false'. Refute it at one input. -/
def fnEnvWrong : ChangeSpec := { name := "fnEnv", fn := fun _ => fun
  | [d] => { results := [.lit (.bool false)], args := [d] }
  | _ => none }
def FnEnvWrongFalsely : Prop := fnEnvRow.holds Tryd.pinned (OpenSpec.ofChange fnEnvWrong)

/-- 'laws.FnExactTermSort': WHATEVER THE INPUT: true; the input reads as it did. -/
def fnExactTermSortSpec : ChangeSpec := { name := "fnExactTermSort", fn := fun _ => fun
  | [d] => { results := [.lit (.bool true)], args := [d] }
  | _ => none }
def fnExactTermSortRow : OpenClaim := { program := "ytnphopnhioogdaadoor", sum := "5debf858b7909aa1e0787f9417529de1c16a4ba38077d3e165034fc3ca462149", func := "loop.example/pushvalue/laws.FnExactTermSort", spec := "fnExactTermSort", inPlace := ["internal/bytealg.IndexByteString", "internal/bytealg.IndexString"], unfollowed := true, recurses := true, named := ["unicode/utf8.first", "unicode/utf8.acceptRanges", "internal/bytealg.MaxLen"], apart := false, laid := [("unicode/utf8.acceptRanges", laid_unicode_utf8_acceptRanges), ("unicode/utf8.first", laid_unicode_utf8_first)] }
def FnExactTermSortSaid : Prop := fnExactTermSortRow.holds Tryd.pinned (OpenSpec.ofChange fnExactTermSortSpec)

/-- ITS FALSE NEIGHBOUR: 'it returns false'. Refute it at one input. -/
def fnExactTermSortWrong : ChangeSpec := { name := "fnExactTermSort", fn := fun _ => fun
  | [d] => { results := [.lit (.bool false)], args := [d] }
  | _ => none }
def FnExactTermSortWrongFalsely : Prop := fnExactTermSortRow.holds Tryd.pinned (OpenSpec.ofChange fnExactTermSortWrong)

/-- 'laws.FnExactTermHead': WHATEVER THE INPUT: true; the input reads as it did. -/
def fnExactTermHeadSpec : ChangeSpec := { name := "fnExactTermHead", fn := fun _ => fun
  | [d] => { results := [.lit (.bool true)], args := [d] }
  | _ => none }
def fnExactTermHeadRow : OpenClaim := { program := "ytnphopnhioogdaadoor", sum := "5debf858b7909aa1e0787f9417529de1c16a4ba38077d3e165034fc3ca462149", func := "loop.example/pushvalue/laws.FnExactTermHead", spec := "fnExactTermHead", inPlace := ["internal/bytealg.IndexByteString", "internal/bytealg.IndexString"], unfollowed := true, recurses := true, named := ["unicode/utf8.first", "unicode/utf8.acceptRanges", "internal/bytealg.MaxLen"], apart := false, laid := [("unicode/utf8.acceptRanges", laid_unicode_utf8_acceptRanges), ("unicode/utf8.first", laid_unicode_utf8_first)] }
def FnExactTermHeadSaid : Prop := fnExactTermHeadRow.holds Tryd.pinned (OpenSpec.ofChange fnExactTermHeadSpec)

/-- ITS FALSE NEIGHBOUR: 'it returns false'. Refute it at one input. -/
def fnExactTermHeadWrong : ChangeSpec := { name := "fnExactTermHead", fn := fun _ => fun
  | [d] => { results := [.lit (.bool false)], args := [d] }
  | _ => none }
def FnExactTermHeadWrongFalsely : Prop := fnExactTermHeadRow.holds Tryd.pinned (OpenSpec.ofChange fnExactTermHeadWrong)

/-- 'laws.FnExactTermFree': WHATEVER THE INPUT: true; the input reads as it did. -/
def fnExactTermFreeSpec : ChangeSpec := { name := "fnExactTermFree", fn := fun _ => fun
  | [d] => { results := [.lit (.bool true)], args := [d] }
  | _ => none }
def fnExactTermFreeRow : OpenClaim := { program := "ytnphopnhioogdaadoor", sum := "5debf858b7909aa1e0787f9417529de1c16a4ba38077d3e165034fc3ca462149", func := "loop.example/pushvalue/laws.FnExactTermFree", spec := "fnExactTermFree", inPlace := ["internal/bytealg.IndexByteString", "internal/bytealg.IndexString"], unfollowed := true, recurses := true, named := ["unicode/utf8.first", "unicode/utf8.acceptRanges", "internal/bytealg.MaxLen"], apart := false, laid := [("unicode/utf8.acceptRanges", laid_unicode_utf8_acceptRanges), ("unicode/utf8.first", laid_unicode_utf8_first)] }
def FnExactTermFreeSaid : Prop := fnExactTermFreeRow.holds Tryd.pinned (OpenSpec.ofChange fnExactTermFreeSpec)

/-- ITS FALSE NEIGHBOUR: 'it returns false'. Refute it at one input. -/
def fnExactTermFreeWrong : ChangeSpec := { name := "fnExactTermFree", fn := fun _ => fun
  | [d] => { results := [.lit (.bool false)], args := [d] }
  | _ => none }
def FnExactTermFreeWrongFalsely : Prop := fnExactTermFreeRow.holds Tryd.pinned (OpenSpec.ofChange fnExactTermFreeWrong)

/-- 'laws.FnExactTermClosed': WHATEVER THE INPUT: true; the input reads as it did. -/
def fnExactTermClosedSpec : ChangeSpec := { name := "fnExactTermClosed", fn := fun _ => fun
  | [d] => { results := [.lit (.bool true)], args := [d] }
  | _ => none }
def fnExactTermClosedRow : OpenClaim := { program := "ytnphopnhioogdaadoor", sum := "5debf858b7909aa1e0787f9417529de1c16a4ba38077d3e165034fc3ca462149", func := "loop.example/pushvalue/laws.FnExactTermClosed", spec := "fnExactTermClosed", inPlace := ["internal/bytealg.IndexByteString", "internal/bytealg.IndexString"], unfollowed := true, recurses := true, named := ["unicode/utf8.first", "unicode/utf8.acceptRanges", "internal/bytealg.MaxLen"], apart := false, laid := [("unicode/utf8.acceptRanges", laid_unicode_utf8_acceptRanges), ("unicode/utf8.first", laid_unicode_utf8_first)] }
def FnExactTermClosedSaid : Prop := fnExactTermClosedRow.holds Tryd.pinned (OpenSpec.ofChange fnExactTermClosedSpec)

/-- ITS FALSE NEIGHBOUR: 'it returns false'. Refute it at one input. -/
def fnExactTermClosedWrong : ChangeSpec := { name := "fnExactTermClosed", fn := fun _ => fun
  | [d] => { results := [.lit (.bool false)], args := [d] }
  | _ => none }
def FnExactTermClosedWrongFalsely : Prop := fnExactTermClosedRow.holds Tryd.pinned (OpenSpec.ofChange fnExactTermClosedWrong)

/-- 'laws.FnExactTermSize': WHATEVER THE INPUT: true; the input reads as it did. -/
def fnExactTermSizeSpec : ChangeSpec := { name := "fnExactTermSize", fn := fun _ => fun
  | [d] => { results := [.lit (.bool true)], args := [d] }
  | _ => none }
def fnExactTermSizeRow : OpenClaim := { program := "ytnphopnhioogdaadoor", sum := "5debf858b7909aa1e0787f9417529de1c16a4ba38077d3e165034fc3ca462149", func := "loop.example/pushvalue/laws.FnExactTermSize", spec := "fnExactTermSize", inPlace := ["internal/bytealg.IndexByteString", "internal/bytealg.IndexString"], unfollowed := true, recurses := true, named := ["unicode/utf8.first", "unicode/utf8.acceptRanges", "internal/bytealg.MaxLen"], apart := false, laid := [("unicode/utf8.acceptRanges", laid_unicode_utf8_acceptRanges), ("unicode/utf8.first", laid_unicode_utf8_first)] }
def FnExactTermSizeSaid : Prop := fnExactTermSizeRow.holds Tryd.pinned (OpenSpec.ofChange fnExactTermSizeSpec)

/-- ITS FALSE NEIGHBOUR: 'it returns false'. Refute it at one input. -/
def fnExactTermSizeWrong : ChangeSpec := { name := "fnExactTermSize", fn := fun _ => fun
  | [d] => { results := [.lit (.bool false)], args := [d] }
  | _ => none }
def FnExactTermSizeWrongFalsely : Prop := fnExactTermSizeRow.holds Tryd.pinned (OpenSpec.ofChange fnExactTermSizeWrong)

/-- 'laws.FnExactTermUses': WHATEVER THE INPUT: true; the input reads as it did. -/
def fnExactTermUsesSpec : ChangeSpec := { name := "fnExactTermUses", fn := fun _ => fun
  | [d1, d2] => { results := [.lit (.bool true)], args := [d1, d2] }
  | _ => none }
def fnExactTermUsesRow : OpenClaim := { program := "ytnphopnhioogdaadoor", sum := "5debf858b7909aa1e0787f9417529de1c16a4ba38077d3e165034fc3ca462149", func := "loop.example/pushvalue/laws.FnExactTermUses", spec := "fnExactTermUses", inPlace := ["internal/bytealg.IndexByteString", "internal/bytealg.IndexString"], unfollowed := true, recurses := true, named := ["unicode/utf8.first", "unicode/utf8.acceptRanges", "internal/bytealg.MaxLen"], apart := false, laid := [("unicode/utf8.acceptRanges", laid_unicode_utf8_acceptRanges), ("unicode/utf8.first", laid_unicode_utf8_first)] }
def FnExactTermUsesSaid : Prop := fnExactTermUsesRow.holds Tryd.pinned (OpenSpec.ofChange fnExactTermUsesSpec)

/-- ITS FALSE NEIGHBOUR: 'it returns false'. Refute it at one input. -/
def fnExactTermUsesWrong : ChangeSpec := { name := "fnExactTermUses", fn := fun _ => fun
  | [d1, d2] => { results := [.lit (.bool false)], args := [d1, d2] }
  | _ => none }
def FnExactTermUsesWrongFalsely : Prop := fnExactTermUsesRow.holds Tryd.pinned (OpenSpec.ofChange fnExactTermUsesWrong)

/-- 'laws.FnExactEnvValid': WHATEVER THE INPUT: true; the input reads as it did. -/
def fnExactEnvValidSpec : ChangeSpec := { name := "fnExactEnvValid", fn := fun _ => fun
  | [d1, d2] => { results := [.lit (.bool true)], args := [d1, d2] }
  | _ => none }
def fnExactEnvValidRow : OpenClaim := { program := "ytnphopnhioogdaadoor", sum := "5debf858b7909aa1e0787f9417529de1c16a4ba38077d3e165034fc3ca462149", func := "loop.example/pushvalue/laws.FnExactEnvValid", spec := "fnExactEnvValid", inPlace := ["internal/bytealg.IndexByteString", "internal/bytealg.IndexString"], unfollowed := true, recurses := true, named := ["unicode/utf8.first", "unicode/utf8.acceptRanges", "internal/bytealg.MaxLen"], apart := false, laid := [("unicode/utf8.acceptRanges", laid_unicode_utf8_acceptRanges), ("unicode/utf8.first", laid_unicode_utf8_first)] }
def FnExactEnvValidSaid : Prop := fnExactEnvValidRow.holds Tryd.pinned (OpenSpec.ofChange fnExactEnvValidSpec)

/-- ITS FALSE NEIGHBOUR: 'it returns false'. Refute it at one input. -/
def fnExactEnvValidWrong : ChangeSpec := { name := "fnExactEnvValid", fn := fun _ => fun
  | [d1, d2] => { results := [.lit (.bool false)], args := [d1, d2] }
  | _ => none }
def FnExactEnvValidWrongFalsely : Prop := fnExactEnvValidRow.holds Tryd.pinned (OpenSpec.ofChange fnExactEnvValidWrong)

/-- 'laws.FnExactEnvLook': WHATEVER THE INPUT: true; the input reads as it did. -/
def fnExactEnvLookSpec : ChangeSpec := { name := "fnExactEnvLook", fn := fun _ => fun
  | [d1, d2, d3] => { results := [.lit (.bool true)], args := [d1, d2, d3] }
  | _ => none }
def fnExactEnvLookRow : OpenClaim := { program := "ytnphopnhioogdaadoor", sum := "5debf858b7909aa1e0787f9417529de1c16a4ba38077d3e165034fc3ca462149", func := "loop.example/pushvalue/laws.FnExactEnvLook", spec := "fnExactEnvLook", inPlace := ["internal/bytealg.IndexByteString", "internal/bytealg.IndexString", "internal/abi.NoEscape", "internal/bytealg.MakeNoZero"], unfollowed := true, recurses := true, named := ["unicode/utf8.first", "unicode/utf8.acceptRanges", "internal/bytealg.MaxLen"], apart := false, laid := [("unicode/utf8.acceptRanges", laid_unicode_utf8_acceptRanges), ("unicode/utf8.first", laid_unicode_utf8_first)] }
def FnExactEnvLookSaid : Prop := fnExactEnvLookRow.holds Tryd.pinned (OpenSpec.ofChange fnExactEnvLookSpec)

/-- ITS FALSE NEIGHBOUR: 'it returns false'. Refute it at one input. -/
def fnExactEnvLookWrong : ChangeSpec := { name := "fnExactEnvLook", fn := fun _ => fun
  | [d1, d2, d3] => { results := [.lit (.bool false)], args := [d1, d2, d3] }
  | _ => none }
def FnExactEnvLookWrongFalsely : Prop := fnExactEnvLookRow.holds Tryd.pinned (OpenSpec.ofChange fnExactEnvLookWrong)

/- THE SECOND FORM. 'bulk': how many values and letters a reading holds, each counted each time it is reached (what is shared counts as often as it is met; a slice's spare places count too). A statement '..UptoSaid' is the law's where the arguments, and the package variables that the reading takes, are together of bulk at most 1048576: NARROWER than '..Said'. Prove '..Said' where nothing that the law and all that it calls make is longer than what came in: it says more and counts as full. Else prove '..UptoSaid'. A law counts once. -/
mutual
def uptoBulk {H : Type} : DataW H → Nat
  | .lit (.string bytes) => bytes.length + 1
  | .lit _ => 1
  | .nil => 1
  | .ptr d => uptoBulk d + 1
  | .slice elems spare => uptoBulkAll elems + uptoBulkAll spare + 1
  | .agg parts => uptoBulkAll parts + 1
  | .iface _ d => uptoBulk d + 1
  | .map entries => uptoBulkEntries entries + 1
  | .held _ => 1
def uptoBulkAll {H : Type} : List (DataW H) → Nat
  | [] => 0
  | d :: r => uptoBulk d + uptoBulkAll r
def uptoBulkEntries {H : Type} : List (Lit × DataW H) → Nat
  | [] => 0
  | x :: r => uptoBulkEntry x + uptoBulkEntries r
def uptoBulkEntry {H : Type} : Lit × DataW H → Nat
  | (.string bytes, d) => bytes.length + uptoBulk d + 1
  | (_, d) => uptoBulk d + 1
 end
def uptoSmall : (H : Type) → List (DataW H) → Bool := fun _ ds => decide (uptoBulkAll ds ≤ 1048576)
def OpenSpec.upto (s : _root_.Go.ChangeSpec) : _root_.Go.OpenSpec := { _root_.Go.OpenSpec.ofChange s with cond := some uptoSmall }

/-- 'laws.FnEnv', WHERE WHAT IT READS IS OF BULK AT MOST 1048576: true; the input reads as it did. -/
def fnEnvUptoRow : OpenClaim := { program := "ytnphopnhioogdaadoor", sum := "5debf858b7909aa1e0787f9417529de1c16a4ba38077d3e165034fc3ca462149", func := "loop.example/pushvalue/laws.FnEnv", spec := "fnEnv", inPlace := ["internal/bytealg.IndexByteString", "internal/bytealg.IndexString", "internal/abi.NoEscape", "internal/bytealg.MakeNoZero"], unfollowed := true, recurses := true, named := ["unicode/utf8.first", "unicode/utf8.acceptRanges", "internal/bytealg.MaxLen"], apart := false, laid := [("unicode/utf8.acceptRanges", laid_unicode_utf8_acceptRanges), ("unicode/utf8.first", laid_unicode_utf8_first)], narrowed := true }
def FnEnvUptoSaid : Prop := fnEnvUptoRow.holds Tryd.pinned (OpenSpec.upto fnEnvSpec)

/-- 'laws.FnExactTermSort', WHERE WHAT IT READS IS OF BULK AT MOST 1048576: true; the input reads as it did. -/
def fnExactTermSortUptoRow : OpenClaim := { program := "ytnphopnhioogdaadoor", sum := "5debf858b7909aa1e0787f9417529de1c16a4ba38077d3e165034fc3ca462149", func := "loop.example/pushvalue/laws.FnExactTermSort", spec := "fnExactTermSort", inPlace := ["internal/bytealg.IndexByteString", "internal/bytealg.IndexString"], unfollowed := true, recurses := true, named := ["unicode/utf8.first", "unicode/utf8.acceptRanges", "internal/bytealg.MaxLen"], apart := false, laid := [("unicode/utf8.acceptRanges", laid_unicode_utf8_acceptRanges), ("unicode/utf8.first", laid_unicode_utf8_first)], narrowed := true }
def FnExactTermSortUptoSaid : Prop := fnExactTermSortUptoRow.holds Tryd.pinned (OpenSpec.upto fnExactTermSortSpec)

/-- 'laws.FnExactTermHead', WHERE WHAT IT READS IS OF BULK AT MOST 1048576: true; the input reads as it did. -/
def fnExactTermHeadUptoRow : OpenClaim := { program := "ytnphopnhioogdaadoor", sum := "5debf858b7909aa1e0787f9417529de1c16a4ba38077d3e165034fc3ca462149", func := "loop.example/pushvalue/laws.FnExactTermHead", spec := "fnExactTermHead", inPlace := ["internal/bytealg.IndexByteString", "internal/bytealg.IndexString"], unfollowed := true, recurses := true, named := ["unicode/utf8.first", "unicode/utf8.acceptRanges", "internal/bytealg.MaxLen"], apart := false, laid := [("unicode/utf8.acceptRanges", laid_unicode_utf8_acceptRanges), ("unicode/utf8.first", laid_unicode_utf8_first)], narrowed := true }
def FnExactTermHeadUptoSaid : Prop := fnExactTermHeadUptoRow.holds Tryd.pinned (OpenSpec.upto fnExactTermHeadSpec)

/-- 'laws.FnExactTermFree', WHERE WHAT IT READS IS OF BULK AT MOST 1048576: true; the input reads as it did. -/
def fnExactTermFreeUptoRow : OpenClaim := { program := "ytnphopnhioogdaadoor", sum := "5debf858b7909aa1e0787f9417529de1c16a4ba38077d3e165034fc3ca462149", func := "loop.example/pushvalue/laws.FnExactTermFree", spec := "fnExactTermFree", inPlace := ["internal/bytealg.IndexByteString", "internal/bytealg.IndexString"], unfollowed := true, recurses := true, named := ["unicode/utf8.first", "unicode/utf8.acceptRanges", "internal/bytealg.MaxLen"], apart := false, laid := [("unicode/utf8.acceptRanges", laid_unicode_utf8_acceptRanges), ("unicode/utf8.first", laid_unicode_utf8_first)], narrowed := true }
def FnExactTermFreeUptoSaid : Prop := fnExactTermFreeUptoRow.holds Tryd.pinned (OpenSpec.upto fnExactTermFreeSpec)

/-- 'laws.FnExactTermClosed', WHERE WHAT IT READS IS OF BULK AT MOST 1048576: true; the input reads as it did. -/
def fnExactTermClosedUptoRow : OpenClaim := { program := "ytnphopnhioogdaadoor", sum := "5debf858b7909aa1e0787f9417529de1c16a4ba38077d3e165034fc3ca462149", func := "loop.example/pushvalue/laws.FnExactTermClosed", spec := "fnExactTermClosed", inPlace := ["internal/bytealg.IndexByteString", "internal/bytealg.IndexString"], unfollowed := true, recurses := true, named := ["unicode/utf8.first", "unicode/utf8.acceptRanges", "internal/bytealg.MaxLen"], apart := false, laid := [("unicode/utf8.acceptRanges", laid_unicode_utf8_acceptRanges), ("unicode/utf8.first", laid_unicode_utf8_first)], narrowed := true }
def FnExactTermClosedUptoSaid : Prop := fnExactTermClosedUptoRow.holds Tryd.pinned (OpenSpec.upto fnExactTermClosedSpec)

/-- 'laws.FnExactTermSize', WHERE WHAT IT READS IS OF BULK AT MOST 1048576: true; the input reads as it did. -/
def fnExactTermSizeUptoRow : OpenClaim := { program := "ytnphopnhioogdaadoor", sum := "5debf858b7909aa1e0787f9417529de1c16a4ba38077d3e165034fc3ca462149", func := "loop.example/pushvalue/laws.FnExactTermSize", spec := "fnExactTermSize", inPlace := ["internal/bytealg.IndexByteString", "internal/bytealg.IndexString"], unfollowed := true, recurses := true, named := ["unicode/utf8.first", "unicode/utf8.acceptRanges", "internal/bytealg.MaxLen"], apart := false, laid := [("unicode/utf8.acceptRanges", laid_unicode_utf8_acceptRanges), ("unicode/utf8.first", laid_unicode_utf8_first)], narrowed := true }
def FnExactTermSizeUptoSaid : Prop := fnExactTermSizeUptoRow.holds Tryd.pinned (OpenSpec.upto fnExactTermSizeSpec)

/-- 'laws.FnExactTermUses', WHERE WHAT IT READS IS OF BULK AT MOST 1048576: true; the input reads as it did. -/
def fnExactTermUsesUptoRow : OpenClaim := { program := "ytnphopnhioogdaadoor", sum := "5debf858b7909aa1e0787f9417529de1c16a4ba38077d3e165034fc3ca462149", func := "loop.example/pushvalue/laws.FnExactTermUses", spec := "fnExactTermUses", inPlace := ["internal/bytealg.IndexByteString", "internal/bytealg.IndexString"], unfollowed := true, recurses := true, named := ["unicode/utf8.first", "unicode/utf8.acceptRanges", "internal/bytealg.MaxLen"], apart := false, laid := [("unicode/utf8.acceptRanges", laid_unicode_utf8_acceptRanges), ("unicode/utf8.first", laid_unicode_utf8_first)], narrowed := true }
def FnExactTermUsesUptoSaid : Prop := fnExactTermUsesUptoRow.holds Tryd.pinned (OpenSpec.upto fnExactTermUsesSpec)

/-- 'laws.FnExactEnvValid', WHERE WHAT IT READS IS OF BULK AT MOST 1048576: true; the input reads as it did. -/
def fnExactEnvValidUptoRow : OpenClaim := { program := "ytnphopnhioogdaadoor", sum := "5debf858b7909aa1e0787f9417529de1c16a4ba38077d3e165034fc3ca462149", func := "loop.example/pushvalue/laws.FnExactEnvValid", spec := "fnExactEnvValid", inPlace := ["internal/bytealg.IndexByteString", "internal/bytealg.IndexString"], unfollowed := true, recurses := true, named := ["unicode/utf8.first", "unicode/utf8.acceptRanges", "internal/bytealg.MaxLen"], apart := false, laid := [("unicode/utf8.acceptRanges", laid_unicode_utf8_acceptRanges), ("unicode/utf8.first", laid_unicode_utf8_first)], narrowed := true }
def FnExactEnvValidUptoSaid : Prop := fnExactEnvValidUptoRow.holds Tryd.pinned (OpenSpec.upto fnExactEnvValidSpec)

/-- 'laws.FnExactEnvLook', WHERE WHAT IT READS IS OF BULK AT MOST 1048576: true; the input reads as it did. -/
def fnExactEnvLookUptoRow : OpenClaim := { program := "ytnphopnhioogdaadoor", sum := "5debf858b7909aa1e0787f9417529de1c16a4ba38077d3e165034fc3ca462149", func := "loop.example/pushvalue/laws.FnExactEnvLook", spec := "fnExactEnvLook", inPlace := ["internal/bytealg.IndexByteString", "internal/bytealg.IndexString", "internal/abi.NoEscape", "internal/bytealg.MakeNoZero"], unfollowed := true, recurses := true, named := ["unicode/utf8.first", "unicode/utf8.acceptRanges", "internal/bytealg.MaxLen"], apart := false, laid := [("unicode/utf8.acceptRanges", laid_unicode_utf8_acceptRanges), ("unicode/utf8.first", laid_unicode_utf8_first)], narrowed := true }
def FnExactEnvLookUptoSaid : Prop := fnExactEnvLookUptoRow.holds Tryd.pinned (OpenSpec.upto fnExactEnvLookSpec)

end Rows
end Go.Proofs.YtnphopnhioogdaaDoor
