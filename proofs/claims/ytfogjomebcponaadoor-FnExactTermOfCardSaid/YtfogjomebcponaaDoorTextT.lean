/- The text of a term: the program's method. -/
import Derived.Test.YtfogjomebcponaaDoorWriteW
namespace Go.Proofs.YtfogjomebcponaaDoor
open Go.RowKit

set_option maxRecDepth 100000 in
set_option maxHeartbeats 2000000 in
/-- THE PROGRAM's TEXT OF A TERM. -/
theorem text_big {w0 : World} {S : Nat → Prop} {m : Tm} {b : Nat} (hn : NIn w0 S m b) (hf : m.fit) (hl : m.write.length ≤ 20000) (w : World) (hk : Kept w0 w) (hw : w0.heap.size ≤ w.heap.size) :
    Calls Tryd.prog 13 #[.pointer (some ⟨b, 0, none⟩)] w fun e w' => e = .returned (.string ⟨m.write.toArray⟩) ∧ Below w.heap.size w w' := by
  have HW := hid (write_big hn hf hl (w.alloc (.cells #[.pointer none, .slice none 0 0] 66)) w.heap.size w.heap.size none [] (hk.alloc hw _) hw (by simp) (Bd.new w _ rfl) (by simp; omega))
  obtain ⟨L, hL⟩ : ∃ L, m.write = L := ⟨_, rfl⟩
  rw [hL] at HW ⊢
  clear hn hf hl hk hL hw
  go_enter Tryd.func13, Tryd.ntmps13
  go_wp2_with (first | (go_at_call 26; have _ := HBD1; refine (Tryd.Builder_String_any w.heap.size w.heap.size L _ HBD1.out.is HS1.out).mono ?_; rintro e w2 ⟨rfl, hb2⟩) | (go_at_call 25; refine HW.out.mono ?_; rintro e w1 ⟨rfl, g1, hbd1, hx1⟩; have HBD1 := hid (show Bd w1 w.heap.size w.heap.size g1 (Lib.byteCells L) from by simpa using hbd1); have HX1 := hid hx1; have HS1 := hid (show w.heap.size ≤ w1.heap.size from by have := hx1.size; simp at this; omega); clear hbd1 hx1))
  go_ret
  refine ⟨rfl, Below.trans ?_ hb2⟩
  have h1 := HX1.out.to_below (B := w.heap.size) (Nat.le_refl _) (by simp) (fun k e => by cases e)
  exact ((Below.refl w.heap.size w).alloc (Nat.le_refl _) _).trans h1

theorem text_any {w0 : World} {S : Nat → Prop} {m : Tm} {b : Nat} (hn : NIn w0 S m b) (hf : m.fit) (hl : m.write.length ≤ 12000) (w : World) (hk : Kept w0 w) (hw : w0.heap.size ≤ w.heap.size) :
    Calls Tryd.prog 13 #[.pointer (some ⟨b, 0, none⟩)] w fun e w' => e = .returned (.string ⟨m.write.toArray⟩) ∧ Below w.heap.size w w' := text_big hn hf (by omega) w hk hw
end Go.Proofs.YtfogjomebcponaaDoor
