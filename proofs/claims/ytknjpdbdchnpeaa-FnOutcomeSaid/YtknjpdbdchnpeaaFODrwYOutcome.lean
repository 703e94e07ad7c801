/- A draw of a type and an element: DrawReturnOutcome. -/
import Derived.Test.YtknjpdbdchnpeaaFM20
namespace Go.Proofs.Ytknjpdbdchnpeaa
open Go.RowKit

set_option maxRecDepth 100000 in
set_option maxHeartbeats 2000000 in
theorem drawOutcome_any {w : World} {p : Option Addr} {n c : Nat} {zs : List Int} (hl : zs.length = n) (hn : n ≤ 100000000) (hz : ∀ z ∈ zs, 0 ≤ z ∧ z ≤ 255) (hp : ∀ g o s, p = some ⟨g, o, s⟩ → n = 0 ∨ g < w.heap.size) (hv : Vals w p (u8s zs)) (hc : n ≤ c) :
    Calls Try.prog 32 #[.slice p n c] w fun e w' => ∃ (s : ByteArray) (k st : Int), e = .returned (.tuple #[.string s, .int .i64 k, .int .i64 st]) ∧ s.size ≤ 60 ∧ Below w.heap.size w w' := by
  have HO := hid (open_any hl hn hz hp hv hc)
  clear hl hz hp hv
  obtain ⟨b, hb⟩ : ∃ b, w.heap.size = b := ⟨_, rfl⟩
  go_enter Try.func32, Try.ntmps32
  go_wp2_with fail
  go_at_call 42
  refine HO.out.mono ?_
  rintro e w1 ⟨rfl, hr1, hb1⟩
  rw [hb] at hr1 hb1 ⊢
  have HBE := hid hb
  have HLT1 := hid hr1.lt
  have HB1 := hid hb1
  have HT := hid (type_any hr1 (by omega))
  clear hr1 hb1 hb
  go_wp2_with fail
  go_at_call 41
  refine HT.out.mono ?_
  rintro e w2 ⟨s2, rfl, hs2, hr2, hp2⟩
  have HR2 := hid hr2
  have HX2 := hid hp2
  have hlt := hr2.lt
  have HO2 := hid (of_any (hr2.alloc (.cells ([(⟨#[40, 102, 32, 98, 41]⟩ : ByteArray), (⟨#[40, 102, 32, 40, 42, 32, 98, 32, 98, 41, 41]⟩ : ByteArray), (⟨#[40, 102, 32, 40, 117, 32, 40, 102, 32, 98, 41, 41, 41]⟩ : ByteArray), s2].map Value.string).toArray 9)) (by omega) w2.heap.size 4 4 60 [(⟨#[40, 102, 32, 98, 41]⟩ : ByteArray), (⟨#[40, 102, 32, 40, 42, 32, 98, 32, 98, 41, 41]⟩ : ByteArray), (⟨#[40, 102, 32, 40, 117, 32, 40, 102, 32, 98, 41, 41, 41]⟩ : ByteArray), s2] (sv_lit w2 _ 4 4 9 rfl) (by omega) (by omega) (by omega) (by
    intro s hs
    simp only [List.mem_cons, List.mem_nil_iff, or_false] at hs
    rcases hs with rfl | rfl | rfl | rfl
    · decide
    · decide
    · decide
    · exact hs2))
  clear hr2 hp2 hs2
  go_wp2_with fail
  go_at_call 52
  refine HO2.out.mono ?_
  rintro e w3 ⟨s3, rfl, hs3, hr3, hp3⟩
  have HR3 := hid hr3
  have HX3 := hid ((HX2.out.alloc _).trans hp3)
  clear hr3 hp3
  go_wp2_with fail
  go_at_call 53
  refine (l91Element_any HR3.out (by omega) s3 (by omega)).mono ?_
  rintro e w4 ⟨x4, rfl, hr4, hp4⟩
  have HR4 := hid hr4
  have HX4 := hid (HX3.out.trans hp4)
  clear hr4 hp4
  go_wp2_with fail
  go_at_call 56
  refine (pick_any HR4.out (by omega) 2 (by omega)).mono ?_
  rintro e w5 ⟨x5, rfl, hx5a, hx5b, _, hr5, hp5⟩
  have hx5c : x5 < 2 := hx5b (by decide)
  have HR5 := hid hr5
  have HX5 := hid (HX4.out.trans hp5)
  clear hr5 hp5 hx5b
  go_wp2_with fail
  go_at_call 56
  refine (pick_any HR5.out (by omega) 20 (by omega)).mono ?_
  rintro e w6 ⟨x6, rfl, hx6a, hx6b, _, hr6, hp6⟩
  have hx6c : x6 < 20 := hx6b (by decide)
  have HX6 := hid (HX5.out.trans hp6)
  clear hr6 hp6 hx6b
  go_wp2_with fail
  ((try simp only [Exit.inBlock, Exit.then]); refine bodyPost_ret (results_tmp3e rfl _ _ _) rfl ?_)
  exact ⟨s3, _, _, rfl, hs3, by rw [HBE.out]; exact HB1.out.trans (HX6.out.to_below (Nat.le_refl _) (Nat.le_of_lt HLT1.out))⟩
end Go.Proofs.Ytknjpdbdchnpeaa
