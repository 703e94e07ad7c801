/- A text that may fail, as a result. -/
import Derived.Test.YtlggbhakkhecmaaKit
namespace Go.Proofs.Ytlggbhakkhecmaa
open Go.RowKit

/-- What a function leaves that returns a text, or none. -/
def txV (o : Option ByteArray) : Value := .tuple #[.string (o.getD ByteArray.empty), .bool o.isSome]
def TxPost (o : Option ByteArray) (w : World) (e : Ending) (w' : World) : Prop := e = .returned (txV o) ∧ Below w.heap.size w w'
theorem txPost_none {w w' : World} (h : Below w.heap.size w w') : TxPost none w (.returned (.tuple #[.string ByteArray.empty, .bool false])) w' := ⟨rfl, h⟩
theorem txV_shape (o : Option ByteArray) : ∃ a d, txV o = .tuple #[.string a, .bool d] := ⟨_, _, rfl⟩
end Go.Proofs.Ytlggbhakkhecmaa
