/- A draw of a term: DrawTermSort. -/
import Derived.Test.YthpcmglnooemaaaGreatDoorUNDrwOdx
namespace Go.Proofs.YthpcmglnooemaaaGreatDoor
open Go.RowKit

set_option maxRecDepth 100000 in
set_option maxHeartbeats 2000000 in
theorem drawTermSort_any {S : Nat} (hS : S = 60000000) {w : World} {p : Option Addr} {n c : Nat} {zs : List Int} (hl : zs.length = n) (hn : n ≤ 100000000) (hz : ∀ z ∈ zs, 0 ≤ z ∧ z ≤ 255) (hp : ∀ g o s, p = some ⟨g, o, s⟩ → n = 0 ∨ g < w.heap.size) (hv : Vals w p (u8s zs)) (hc : n ≤ c) :
    Calls Tryz.prog 12 #[.slice p n c] w fun e w' => ∃ s : ByteArray, e = .returned (.string s) ∧ s.size ≤ S + 10 ∧ Below w.heap.size w w' := by
  have HO := hid (open_any hl hn hz hp hv hc)
  clear hl hz hp hv
  have HS0 := hid hS
  obtain ⟨b, hb⟩ : ∃ b, w.heap.size = b := ⟨_, rfl⟩
  go_enter Tryz.func12, Tryz.ntmps12
  go_wp2_with fail
  go_at_call 41
  refine HO.out.mono ?_
  rintro e w1 ⟨rfl, hr1, hb1⟩
  rw [hb] at hr1 hb1 ⊢
  have HBE := hid hb
  clear hb
  have HB1 := hid hb1
  have HT := hid (l91Odd_any hS hr1 (by omega))
  have HR := hid hr1.lt
  clear hr1 hb1 hS
  go_wp2_with fail
  go_at_call 40
  refine HT.out.mono ?_
  rintro e w2 ⟨s2, rfl, hs2, hr2, hp2⟩
  have HX2 := hid hp2
  have HS := hid hs2
  clear hr2 hp2 hs2
  go_wp2_with fail
  go_ret
  exact ⟨s2, rfl, HS.out, by rw [HBE.out]; exact HB1.out.trans (HX2.out.to_below (Nat.le_refl _) (by have := HR.out; omega))⟩
end Go.Proofs.YthpcmglnooemaaaGreatDoor
