/- The head of a type, plainly. -/
import Derived.Test.YtlggbhakkhecmaaVM7
namespace Go.Proofs.Ytlggbhakkhecmaa
open Go.RowKit

/-- The text of the head of a type. -/
def headOf : Option Ty → ByteArray
  | some t => ⟨#[t.headB]⟩
  | none => ByteArray.empty
theorem ty_head : ∀ (t : Tree) (ty : Ty), t.ty = some ty → (match t with | .atom s => s | .node [] => ByteArray.empty | .node (q :: _) => q.text) = ⟨#[ty.headB]⟩
  | .atom s, ty, h => by
    rw [Tree.ty] at h
    split at h
    · rename_i hs; simp at h; subst h; exact bytes_of_toList hs
    · simp at h
  | .node [], ty, h => by simp [Tree.ty] at h
  | .node (q :: qs), ty, h => by
    rw [Tree.ty] at h
    cases hk : Tree.tys qs with
    | none => rw [hk] at h; simp at h
    | some ks =>
      rw [hk] at h; simp only at h
      show q.text = _
      have : ∀ (L : List UInt8), tyParts L ks = some ty → L = [ty.headB] := by
        intro L hL
        unfold tyParts at hL
        split at hL
        · split at hL
          · rename_i c; simp at hL; subst hL; exact c.1
          · split at hL
            · rename_i c; simp at hL; subst hL; exact c.1
            · split at hL
              · rename_i c; simp at hL; subst hL; exact c.1
              · simp at hL
        · split at hL
          · rename_i c; simp at hL; subst hL; exact c.1
          · split at hL
            · rename_i c; simp at hL; subst hL; exact c.1
            · simp at hL
        · simp at hL
      exact bytes_of_toList (this _ h)
end Go.Proofs.Ytlggbhakkhecmaa
