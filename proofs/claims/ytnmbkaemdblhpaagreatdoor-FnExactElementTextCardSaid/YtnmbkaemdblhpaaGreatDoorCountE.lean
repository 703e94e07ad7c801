/- The program's count of any type. -/
import Derived.Test.YtnmbkaemdblhpaaGreatDoorCountD
namespace Go.Proofs.YtnmbkaemdblhpaaGreatDoor
open Go.RowKit Go.Maps

theorem CPost.up {b n k k' : Nat} {v : Int} {w w' : World} {e : Ending} (h : CPost b n k v w e w') (hk : k ≤ k') : CPost b n k' v w e w' :=
  let ⟨h1, h2, n', D', h3, h4, h5⟩ := h
  ⟨h1, h2, n', D', by omega, h4, h5⟩
/-- THE PROGRAM's COUNT OF A TYPE, over any map of counts that is right. -/
theorem count_any : ∀ (t : Ty), t.write.length ≤ 12000 → ∀ (w : World) (b n : Nat) (D : DataW Unit), w.ownsMap Tryz.prog 9 (plainElem Tryz.prog 3) b n D → Good D → n + t.write.length ≤ 1000000 →
    Calls Tryz.prog 15 #[.map (some b), t.val] w (CPost b n t.write.length (cntV t.cnt) w)
  | .bit, hs, w, b, n, D, ho, hg, hn => of_go .bit hs w b n D ho hg hn (by simp [Ty.write]) (fun W n D ho hg _ => (compute_bit W b n 0 (ofParts_bit W b n D ho hg)).mono fun _ _ h => h.up (Nat.zero_le _))
  | .pair x y, hs, w, b, n, D, ho, hg, hn => of_go (.pair x y) hs w b n D ho hg hn (by simp [Ty.write]) (fun W n D ho hg hn2 => (compute_pair x y W b n _ (ofParts_pair x y W b n D ho hg (by simp [lenL, Ty.write] at hn2 ⊢; omega) (by intro i t ht; match i, ht with | 0, ht => simp at ht; subst ht; exact fun W n D o g hn => count_any x (by simp [Ty.write] at hs; omega) W b n D o g hn | 1, ht => simp at ht; subst ht; exact fun W n D o g hn => count_any y (by simp [Ty.write] at hs; omega) W b n D o g hn))).mono fun _ _ h => h.up (by simp [lenL, Ty.write] <;> omega))
  | .thunk x, hs, w, b, n, D, ho, hg, hn => of_go (.thunk x) hs w b n D ho hg hn (by simp [Ty.write]) (fun W n D ho hg hn2 => (compute_thunk x W b n _ (ofParts_thunk x W b n D ho hg (by simp [lenL, Ty.write] at hn2 ⊢; omega) (by intro i t ht; match i, ht with | 0, ht => simp at ht; subst ht; exact fun W n D o g hn => count_any x (by simp [Ty.write] at hs; omega) W b n D o g hn))).mono fun _ _ h => h.up (by simp [lenL, Ty.write] <;> omega))
  | .ret x, hs, w, b, n, D, ho, hg, hn => of_go (.ret x) hs w b n D ho hg hn (by simp [Ty.write]) (fun W n D ho hg hn2 => (compute_ret x W b n _ (ofParts_ret x W b n D ho hg (by simp [lenL, Ty.write] at hn2 ⊢; omega) (by intro i t ht; match i, ht with | 0, ht => simp at ht; subst ht; exact fun W n D o g hn => count_any x (by simp [Ty.write] at hs; omega) W b n D o g hn))).mono fun _ _ h => h.up (by simp [lenL, Ty.write] <;> omega))
  | .fn x y, hs, w, b, n, D, ho, hg, hn => of_go (.fn x y) hs w b n D ho hg hn (by simp [Ty.write]) (fun W n D ho hg hn2 => (compute_fn x y W b n _ (ofParts_fn x y W b n D ho hg (by simp [lenL, Ty.write] at hn2 ⊢; omega) (by intro i t ht; match i, ht with | 0, ht => simp at ht; subst ht; exact fun W n D o g hn => count_any x (by simp [Ty.write] at hs; omega) W b n D o g hn | 1, ht => simp at ht; subst ht; exact fun W n D o g hn => count_any y (by simp [Ty.write] at hs; omega) W b n D o g hn))).mono fun _ _ h => h.up (by simp [lenL, Ty.write] <;> omega))
  | .choice x y, hs, w, b, n, D, ho, hg, hn => of_go (.choice x y) hs w b n D ho hg hn (by simp [Ty.write]) (fun W n D ho hg hn2 => (compute_choice x y W b n _ (ofParts_choice x y W b n D ho hg (by simp [lenL, Ty.write] at hn2 ⊢; omega) (by intro i t ht; match i, ht with | 0, ht => simp at ht; subst ht; exact fun W n D o g hn => count_any x (by simp [Ty.write] at hs; omega) W b n D o g hn | 1, ht => simp at ht; subst ht; exact fun W n D o g hn => count_any y (by simp [Ty.write] at hs; omega) W b n D o g hn))).mono fun _ _ h => h.up (by simp [lenL, Ty.write] <;> omega))
theorem grown_below {w w1 w2 : World} {o : Obj} (hb : Below w.heap.size w w1) (hg : (w1.alloc o).grownBy w2 (some w1.heap.size)) : Below w.heap.size w w2 := by
  have hz := hb.size
  have h1 := hb.alloc hz o
  exact ⟨hg.os.trans h1.os, hg.tape.trans h1.tape, hg.output.trans h1.output, Nat.le_trans h1.size hg.size, fun k hk => (hg.block k (Nat.lt_of_lt_of_le hk h1.size) (by intro e; simp at e; omega)).trans (h1.block k hk)⟩
end Go.Proofs.YtnmbkaemdblhpaaGreatDoor
