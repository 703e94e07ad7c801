/- A type's text. -/
import Derived.Test.YtfogjomebcponaaDoorWrite
namespace Go.Proofs.YtfogjomebcponaaDoor
open Go.RowKit

/-- A type's text. -/
def Ty.text (t : Ty) : ByteArray := ⟨t.write.toArray⟩
theorem text_toList (t : Ty) : t.text.toList = t.write := by rw [Go.ByteArray.toList_eq]; rfl
theorem text_size (t : Ty) : t.text.size = t.write.length := by unfold Ty.text; simp [ByteArray.size]
end Go.Proofs.YtfogjomebcponaaDoor
