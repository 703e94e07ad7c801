/- A draw of an environment: DrawEnvValid. -/
import Derived.Test.YtnphopnhioogdaaDoorDrwV
namespace Go.Proofs.YtnphopnhioogdaaDoor
open Go.RowKit

set_option maxRecDepth 100000 in
set_option maxHeartbeats 2000000 in
theorem drawEnv_any {w : World} {p : Option Addr} {n c : Nat} {zs : List Int} (hl : zs.length = n) (hn : n ≤ 100000000) (hz : ∀ z ∈ zs, 0 ≤ z ∧ z ≤ 255) (hp : ∀ g o s, p = some ⟨g, o, s⟩ → n = 0 ∨ g < w.heap.size) (hv : Vals w p (u8s zs)) (hc : n ≤ c) :
    Calls Tryd.prog 12 #[.slice p n c] w fun e w' => ∃ (ns ts : List ByteArray) (p1 p2 : Option Addr) (n m c d : Nat), e = .returned (.tuple #[.slice p1 n c, .slice p2 m d]) ∧ ns.length = n ∧ ts.length = m ∧ n ≤ 5 ∧ m ≤ 5 ∧
      Vals w' p1 (ns.map Value.string) ∧ Vals w' p2 (ts.map Value.string) ∧ (∀ s ∈ ns, s.size ≤ 60) ∧ (∀ s ∈ ts, s.size ≤ 60) ∧ Below w.heap.size w w' := by
  have HO := hid (open_any hl hn hz hp hv hc)
  clear hl hz hp hv
  obtain ⟨b, hb⟩ : ∃ b, w.heap.size = b := ⟨_, rfl⟩
  go_enter Tryd.func12, Tryd.ntmps12
  go_wp2_with fail
  go_at_call 35
  refine HO.out.mono ?_
  rintro e w1 ⟨rfl, hr1, hb1⟩
  rw [hb] at hr1 hb1 ⊢
  have HBE := hid hb
  clear hb
  have HB1 := hid hb1
  have HT := hid (l91Env_any hr1 (by omega))
  have HR := hid hr1.lt
  clear hr1 hb1
  go_wp2_with fail
  go_at_call 34
  refine HT.out.mono ?_
  rintro e w2 ⟨ns, ts, p1, p2, n1, m1, c1, d1, rfl, h1, h2, h3, h4, h5, h6, h7, h8, hr2, hp2⟩
  have HX2 := hid hp2
  have H5 := hid h5
  have H6 := hid h6
  clear hr2 hp2 h5 h6
  go_wp2_with fail
  go_ret2
  exact ⟨ns, ts, p1, p2, n1, m1, c1, d1, rfl, h1, h2, h3, h4, H5.out, H6.out, h7, h8, by rw [HBE.out]; exact HB1.out.trans (HX2.out.to_below (Nat.le_refl _) (by have := HR.out; omega))⟩
end Go.Proofs.YtnphopnhioogdaaDoor
