/- A term under construction: addKid. -/
import Derived.Test.YtfogjomebcponaaDoorAddK1
import Derived.Test.YtfogjomebcponaaDoorAddK2
namespace Go.Proofs.YtfogjomebcponaaDoor
open Go.RowKit

/-- THE PROGRAM's addKid. -/
theorem addKid_any {w0 : World} {p : Tree} {h : Hd} (ih : TmAsk w0 p h) (v : Bool) (b : Nat) (hd : ByteArray) (st : St) (ar : List ByteArray) (q : Option Addr) (n c : Nat) (w : World) (hst : Bld w b hd st) (hk : Kept w0 w) (hw : w0.heap.size ≤ w.heap.size) (hv : SV w q n c ar) (hn : n + st.binds.length + p.wt ≤ 12000) (hkn : st.kids.length ≤ 1000) :
    Calls Tryd.prog 64 #[.pointer (some ⟨b, 0, none⟩), .agg #[.string h.a, .slice h.p h.l h.c], .string (vS v), .slice q n c] w (PartPost (addK v (p.tm (ar ++ st.binds)) st) b hd w) := by
  cases ho : p.tm (ar ++ st.binds) with
  | none =>
    rw [← ho]
    cases v with
    | true => exact addKid_none_true ih b hd st ar q n c w hst hk hw hv hn ho
    | false => exact addKid_none_false ih b hd st ar q n c w hst hk hw hv hn ho
  | some m =>
    rw [← ho]
    cases v with
    | true =>
      cases hm : m.isVal with
      | true => exact addKid_true_true ih b hd st ar q n c w hst hk hw hv hn m ho hm hkn
      | false => exact addKid_true_false ih b hd st ar q n c w hst hk hw hv hn m ho hm
    | false =>
      cases hm : m.isVal with
      | true => exact addKid_false_true ih b hd st ar q n c w hst hk hw hv hn m ho hm
      | false => exact addKid_false_false ih b hd st ar q n c w hst hk hw hv hn m ho hm hkn
end Go.Proofs.YtfogjomebcponaaDoor
