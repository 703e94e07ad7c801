/- Draws of a type or of another text; of a function's list. -/
import Derived.Test.YtknjpdbdchnpeaaDrwO
namespace Go.Proofs.Ytknjpdbdchnpeaa
open Go.RowKit

/-- The other texts. -/
def oddT : List ByteArray := [⟨#[]⟩, ⟨#[120]⟩, ⟨#[40, 102, 41]⟩, ⟨#[40, 117, 32, 98, 41]⟩, ⟨#[40, 62, 32, 98, 32, 98, 41]⟩, ⟨#[40, 102, 32, 32, 98, 41]⟩, ⟨#[40, 42, 32, 98, 32, 40, 102, 32, 98, 41, 41]⟩, ⟨#[40, 38, 32, 98, 32, 98, 41]⟩, ⟨#[98, 41]⟩,
  ⟨#[40, 102, 32, 40, 42, 32, 40, 42, 32, 98, 32, 98, 41, 32, 40, 42, 32, 40, 42, 32, 98, 32, 98, 41, 32, 40, 42, 32, 40, 42, 32, 98, 32, 98, 41, 32, 98, 41, 41, 41, 41]⟩]

set_option maxRecDepth 100000 in
set_option maxHeartbeats 2000000 in
theorem type_any {w : World} {b q : Nat} (hr : Rd w b q) (hq : q + 100 ≤ 1099511627776) : Calls Try.prog 41 #[.pointer (some ⟨b, 0, none⟩)] w (Drawn b (q + 100) 60 w) := by
  have HP := hid (pick_any hr (by omega) 16 (by omega))
  have HV := hid (fun q' w' (h : Rd w' b q') (h2 : q' + 50 ≤ 1099511627776) => (types_any b 2 (by omega)).1 q' w' h (by have : costT 2 = 9 := rfl; omega))
  have HCC := hid (fun q' w' (h : Rd w' b q') (h2 : q' + 50 ≤ 1099511627776) => (types_any b 2 (by omega)).2 q' w' h (by have : costT 2 = 9 := rfl; omega))
  have HB := hid hr.lt
  clear hr
  go_enter Try.func41, Try.ntmps41
  go_wp2_with fail
  go_at_call 56
  refine HP.out.mono ?_
  rintro e w1 ⟨x1, rfl, hx1a, hx1b, _, hr1, hp1⟩
  have HR1 := hid hr1
  have HX1 := hid hp1
  clear hr1 hp1 hx1b
  by_cases hz : x1 = 0
  · subst hz
    have hbl := Nat.lt_of_lt_of_le HB.out HX1.out.size
    have HO := hid (of_any (HR1.out.alloc (.cells (oddT.map Value.string).toArray 9)) (by omega) w1.heap.size 10 10 60 oddT (sv_lit w1 oddT 10 10 9 rfl) (by omega) (by omega) (by omega) (by intro s hs; simp only [oddT, List.mem_cons, List.mem_nil_iff, or_false] at hs; rcases hs with rfl | rfl | rfl | rfl | rfl | rfl | rfl | rfl | rfl | rfl <;> decide))
    go_wp2_with fail
    go_at_call 52
    refine HO.out.mono ?_
    rintro e w2 ⟨s2, rfl, hs2, hr2, hp2⟩
    have HR2 := hid hr2
    have HX2 := hid ((HX1.out.alloc _).trans hp2)
    have HS2 := hid hs2
    clear hr2 hp2 hs2
    go_wp2_with fail
    go_ret
    exact ⟨_, rfl, HS2.out, HR2.out.le (by omega), HX2.out⟩
  · have hzf : (x1 == 0) = false := beq_eq_false_iff_ne.2 hz
    have HP2 := hid (pick_any HR1.out (by omega) 2 (by omega))
    clear hz
    go_wp2_with fail
    go_at_call 56
    refine HP2.out.mono ?_
    rintro e w2 ⟨x2, rfl, hx2a, hx2b, _, hr2, hp2⟩
    have hx2c : x2 < 2 := hx2b (by decide)
    have HR2 := hid hr2
    have HX2 := hid (HX1.out.trans hp2)
    clear hr2 hp2 hx2b
    rcases two_cases hx2a hx2c with rfl | rfl
    · go_wp2_with fail
      go_at_call 65
      refine (HV.out _ _ HR2.out (by omega)).mono ?_
      rintro e w3 ⟨s3, rfl, hs3, hr3, hp3⟩
      have HR3 := hid hr3
      have HX3 := hid (HX2.out.trans hp3)
      have HS3 := hid hs3
      clear hr3 hp3 hs3
      go_wp2_with fail
      go_ret
      exact ⟨_, rfl, Nat.le_trans HS3.out (by decide), HR3.out.le (by have : costT 2 = 9 := rfl; omega), HX3.out⟩
    · go_wp2_with fail
      go_at_call 66
      refine (HCC.out _ _ HR2.out (by omega)).mono ?_
      rintro e w3 ⟨s3, rfl, hs3, hr3, hp3⟩
      have HR3 := hid hr3
      have HX3 := hid (HX2.out.trans hp3)
      have HS3 := hid hs3
      clear hr3 hp3 hs3
      go_wp2_with fail
      go_ret
      exact ⟨_, rfl, Nat.le_trans HS3.out (by decide), HR3.out.le (by have : costT 2 = 9 := rfl; omega), HX3.out⟩

end Go.Proofs.Ytknjpdbdchnpeaa
