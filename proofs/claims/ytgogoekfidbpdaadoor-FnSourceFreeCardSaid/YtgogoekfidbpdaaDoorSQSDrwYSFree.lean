/- Merged: DrwYSFree. -/
import Derived.Deep.RegionHeld3
import Derived.Test.YtgogoekfidbpdaaDoorSQSSdF
namespace Go.Proofs.YtgogoekfidbpdaaDoor
open Go.RowKit

def sfN : List ByteArray := [⟨#[97]⟩, ⟨#[121]⟩]
def sfT : List ByteArray := [⟨#[98]⟩, ⟨#[40, 62, 32, 98, 32, 98, 41]⟩]
theorem sfN_small : ∀ s ∈ sfN, s.size ≤ 60 := by intro s hs; simp only [sfN, List.mem_cons, List.mem_nil_iff, or_false] at hs; rcases hs with rfl | rfl <;> decide
theorem srcE3 (b : Nat) : SDraw b 3 := srcE_succ (by omega) (srcE_succ (by omega) (srcE_succ (by omega) (srcE_zero b) (srcE_zero b)) (srcE_zero b)) (srcE_zero b)
theorem mE3 : mE 3 ≤ 40000 := by decide

set_option maxRecDepth 100000 in
set_option maxHeartbeats 4000000 in
theorem drawSourceFree_any {w : World} {p : Option Addr} {n c : Nat} {zs : List Int} (hl : zs.length = n) (hn : n ≤ 100000000) (hz : ∀ z ∈ zs, 0 ≤ z ∧ z ≤ 255) (hp : ∀ g o s, p = some ⟨g, o, s⟩ → n = 0 ∨ g < w.heap.size) (hv : Vals w p (u8s zs)) (hc : n ≤ c) :
    Calls Tryd.prog 4 #[.slice p n c] w fun e w' => ∃ s : ByteArray, e = .returned (.string s) ∧ s.size ≤ 40000 ∧ Below w.heap.size w w' := by
  have HO := hid (open_any hl hn hz hp hv hc)
  clear hl hz hp hv
  obtain ⟨b, hb⟩ : ∃ b, w.heap.size = b := ⟨_, rfl⟩
  go_enter Tryd.func4, Tryd.ntmps4
  go_wp2_with fail
  go_at_call 10
  refine HO.out.mono ?_
  rintro e w1 ⟨rfl, hr1, hb1⟩
  rw [hb] at hr1 hb1 ⊢
  have HBE := hid hb
  clear hb
  have HB1 := hid hb1
  have HR1 := hid hr1
  clear hr1 hb1
  obtain ⟨W1, hW1⟩ : ∃ W, w1.alloc (.cells (sfN.map Value.string).toArray 9) = W := ⟨_, rfl⟩
  obtain ⟨W2, hW2⟩ : ∃ W, W1.alloc (.cells (sfT.map Value.string).toArray 9) = W := ⟨_, rfl⟩
  have z1 : W1.heap.size = w1.heap.size + 1 := by rw [← hW1]; simp
  have HE := hid (show (w1.alloc (.cells #[.string ⟨#[97]⟩, .string ⟨#[121]⟩] 9)).alloc (.cells #[.string ⟨#[98]⟩, .string ⟨#[40, 62, 32, 98, 32, 98, 41]⟩] 9) = W2 from by rw [← hW2, ← hW1]; rfl)
  have hN1 := sv_lit w1 sfN 2 2 9 rfl
  rw [hW1] at hN1
  have hN2 : SV W2 (some ⟨w1.heap.size, 0, none⟩) 2 2 sfN := by rw [← hW2]; exact sv_alloc hN1 _
  have hT2 := sv_lit W1 sfT 2 2 9 rfl
  rw [hW2, z1] at hT2
  have HX := hid (show Px b w1 W2 by rw [← hW2, ← hW1]; exact ((Px.refl b w1).alloc _).alloc _)
  have hR : Rd W2 b 0 := by rw [← hW2, ← hW1]; exact (HR1.out.alloc _).alloc _
  have HSC := hid (⟨hN2, hT2, by decide, sfN_small⟩ : Scp W2 (some ⟨w1.heap.size, 0, none⟩) (some ⟨w1.heap.size + 1, 0, none⟩) 2 2 2 sfN sfT)
  have h3 := mE3
  have HC := hid (srcE3 b .bit ⟨#[98]⟩ 0 W2 _ _ 2 2 2 sfN sfT 3 true (by rfl) (by decide) HSC.out hR (by omega) (by omega) rfl)
  clear hW1 hW2 hN1 hN2 hT2 hR z1
  go_wp2_with fail
  go_at_call 11
  rw [HE.out]
  refine HC.out.mono ?_
  rintro e w3 ⟨s3, rfl, hs3, hr3, hp3⟩
  have HX3 := hid (HX.out.trans hp3)
  have HS3 := hid hs3
  clear hr3 hp3 hs3
  go_wp2_with fail
  go_ret
  exact ⟨s3, rfl, by have := HS3.out; omega, by rw [HBE.out]; exact HB1.out.trans (HX3.out.to_below (Nat.le_refl _) (by have := HR1.out.lt; omega))⟩
end Go.Proofs.YtgogoekfidbpdaaDoor
