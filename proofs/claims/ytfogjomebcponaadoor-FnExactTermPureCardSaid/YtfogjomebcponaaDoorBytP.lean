/- Small laws on bytes. -/
import Derived.Test.YtfogjomebcponaaDoorPure
namespace Go.Proofs.YtfogjomebcponaaDoor
open Go.RowKit

theorem bytes_of_toList {a : ByteArray} {l : List UInt8} (h : a.toList = l) : a = ⟨l.toArray⟩ := by
  rw [Go.ByteArray.toList_eq] at h
  cases a with
  | mk d => simp at h; rw [← h]
theorem append_toList (a b : ByteArray) : (a ++ b).toList = a.toList ++ b.toList := by
  rw [Go.ByteArray.toList_eq, Go.ByteArray.toList_eq, Go.ByteArray.toList_eq]; simp

theorem space_toList : ({ data := #[32] } : ByteArray).toList = [32] := by rw [Go.ByteArray.toList_eq]
end Go.Proofs.YtfogjomebcponaaDoor
