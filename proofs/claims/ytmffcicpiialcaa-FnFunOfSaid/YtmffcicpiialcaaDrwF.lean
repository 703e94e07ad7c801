/- A draw of a type and of a list: DrawFunOf. -/
import Derived.Test.YtmffcicpiialcaaDrwD
import Derived.Test.YtmffcicpiialcaaDrwX
import Derived.Test.YtmffcicpiialcaaIntP
import Derived.Deep.RegionWith
namespace Go.Proofs.Ytmffcicpiialcaa
open Go.RowKit

theorem Px.drewL (b : Nat) (w : World) : Px b w w.drew := Px.below ((Below.refl w.heap.size w).drew) (Nat.le_refl _)
theorem RdX.lt {w : World} {b k : Nat} {zs : List Int} (h : RdX w b k zs) : b < w.heap.size := h.rd.lt
theorem vals_lit (w : World) (l : List Value) (m : Nat) (t : TypeId) : Vals (w.alloc (.cells l.toArray t)) (some ⟨w.heap.size, 0, none⟩) (l.take m) := fun i v hi => by
  refine ⟨w.heap.size, 0, rfl, ?_⟩
  have h := heap_alloc_new w (.cells l.toArray t)
  unfold World.cell?
  rw [show (⟨w.heap.size, 0 + i, none⟩ : Addr).block = w.heap.size from rfl, h]
  have : l[i]? = some v := by
    rw [List.getElem?_take] at hi
    split at hi
    · exact hi
    · cases hi
  simp [this]
theorem Vals.px {w w' : World} {b g o : Nat} {l : List Value} (h : Vals w (some ⟨g, o, none⟩) l) (hp : Px b w w') (hne : g ≠ b) : Vals w' (some ⟨g, o, none⟩) l := fun i v hi => by
  obtain ⟨g2, o2, he, hc⟩ := h i v hi
  obtain ⟨rfl, rfl⟩ : g = g2 ∧ o = o2 := by simpa using he
  exact ⟨g, o, rfl, hp.cell (a := ⟨g, o + i, none⟩) hne hc⟩
/-- What DrawFunOf leaves: some text, some short list. -/
def DfPost (w : World) (e : Ending) (w' : World) : Prop :=
  ∃ (s : ByteArray) (g o n c : Nat) (zs : List Int), e = .returned (.tuple #[.string s, .slice (some ⟨g, o, none⟩) n c]) ∧ s.size ≤ 60 ∧ zs.length = n ∧ n ≤ 3 ∧ Vals w' (some ⟨g, o, none⟩) (ints zs) ∧ Below w.heap.size w w'

set_option maxRecDepth 100000 in
set_option maxHeartbeats 2000000 in
theorem drawFunOf_any {w : World} {p : Option Addr} {n c : Nat} {zs : List Int} (hl : zs.length = n) (hn : n ≤ 100000000) (hz : ∀ z ∈ zs, 0 ≤ z ∧ z ≤ 255) (hp : ∀ g o s, p = some ⟨g, o, s⟩ → n = 0 ∨ g < w.heap.size) (hv : Vals w p (u8s zs)) (hc : n ≤ c) :
    Calls Try.prog 4 #[.slice p n c] w (DfPost w) := by
  have HO := hid (open_any hl hn hz hp hv hc)
  clear hl hz hp hv
  obtain ⟨b, hb⟩ : ∃ b, w.heap.size = b := ⟨_, rfl⟩
  have HB := hid hb
  go_enter Try.func4, Try.ntmps4
  go_wp2_with fail
  go_at_call 9
  refine HO.out.mono ?_
  rintro e w1 ⟨rfl, hr1, hb1⟩
  rw [hb] at hr1 hb1 ⊢
  have HBE := hid hb
  have HLT1 := hid hr1.lt
  have HB1 := hid hb1
  have HT := hid (type_any hr1 (by omega))
  clear hr1 hb1 hb
  go_wp2_with fail
  go_at_call 11
  refine HT.out.mono ?_
  rintro e w2 ⟨s2, rfl, hs2, hr2, hp2⟩
  have HR2 := hid hr2
  have HX2 := hid hp2
  have hlt := hr2.lt
  have HO2 := hid (of_any (hr2.alloc (.cells ([(⟨#[40, 62, 32, 98, 32, 40, 102, 32, 98, 41, 41]⟩ : ByteArray), ⟨#[40, 62, 32, 98, 32, 40, 38, 32, 40, 102, 32, 98, 41, 32, 40, 102, 32, 98, 41, 41, 41]⟩, s2].map Value.string).toArray 9)) (by omega) w2.heap.size 3 3 60 [⟨#[40, 62, 32, 98, 32, 40, 102, 32, 98, 41, 41]⟩, ⟨#[40, 62, 32, 98, 32, 40, 38, 32, 40, 102, 32, 98, 41, 32, 40, 102, 32, 98, 41, 41, 41]⟩, s2] (sv_lit w2 _ 3 3 9 rfl) (by omega) (by omega) (by omega) (by
    intro s hs
    simp only [List.mem_cons, List.mem_nil_iff, or_false] at hs
    rcases hs with rfl | rfl | rfl
    · decide
    · decide
    · exact hs2))
  clear hr2 hp2 hs2
  go_wp2_with fail
  go_at_call 10
  refine HO2.out.mono ?_
  rintro e w3 ⟨s3, rfl, hs3, hr3, hp3⟩
  obtain ⟨k, cs, hkq, hcs, hrx⟩ := hr3.open
  have HR3 := hid hrx
  have HLT := hid hr3.lt
  have HX3 := hid ((HX2.out.alloc _).trans hp3)
  have HS3 := hid hs3
  obtain ⟨x4, h4a, h4b, h4⟩ := pick_det cs k 26 hcs (by omega) (by omega) (by omega)
  obtain ⟨x5, h5a, h5b, h5⟩ := pick_det cs (k + 1) 20 hcs (by omega) (by omega) (by omega)
  obtain ⟨x6, h6a, h6b, h6⟩ := pick_det cs (k + 1 + 1) 25 hcs (by omega) (by omega) (by omega)
  obtain ⟨x7, h7a, h7b, h7⟩ := pick_det cs (k + 1 + 1 + 1) 12 hcs (by omega) (by omega) (by omega)
  have HP4 := hid h4
  have HP5 := hid h5
  have HP6 := hid h6
  have HP7 := hid h7
  have hq : (x7 / 11 = 0 ∧ x7.tdiv 11 = 0 ∧ IntKind.i64.wrap (x7.tdiv 11) = 0 ∧ IntKind.i64.wrap (x7 / 11) = 0) ∨ (x7 / 11 = 1 ∧ x7.tdiv 11 = 1 ∧ IntKind.i64.wrap (x7.tdiv 11) = 1 ∧ IntKind.i64.wrap (x7 / 11) = 1) := by
    have e := Int.tdiv_eq_ediv_of_nonneg (b := 11) h7a
    have h : x7 / 11 = 0 ∨ x7 / 11 = 1 := by omega
    rcases h with h | h
    · left; rw [e, h]; exact ⟨rfl, rfl, by decide, by decide⟩
    · right; rw [e, h]; exact ⟨rfl, rfl, by decide, by decide⟩
  clear hr3 hp3 hs3 hrx h4 h5 h6 h7 hcs hkq
  rcases hq with ⟨hq1, hq2, hq3, hq4⟩ | ⟨hq1, hq2, hq3, hq4⟩
  · have hs1 : IntKind.i64.wrap (2 + 0) = 2 := by decide
    go_wp2_with fail
    go_region_with (first
      | (have _ := HR6; go_at_call 12; refine (HP7.out _ _ (by first | exact HR6.out | exact HR6.out.alloc _)).mono ?_; rintro e w7 ⟨rfl, hr7, hp7⟩; have HR7 := hid hr7; have HX7 := hid (show Px b w1 w7 from by first | exact HX6.out.trans hp7 | exact (HX6.out.alloc _).trans hp7); have HQ7 := hid hp7; clear hr7 hp7)
      | (have _ := HR5; go_at_call 12; refine (HP6.out _ _ (HR5.out)).mono ?_; rintro e w6 ⟨rfl, hr6, hp6⟩; have HR6 := hid hr6; have HX6 := hid (show Px b w1 w6 from HX5.out.trans hp6); have HQ6 := hid hp6; clear hr6 hp6)
      | (have _ := HR4; go_at_call 12; refine (HP5.out _ _ (HR4.out)).mono ?_; rintro e w5 ⟨rfl, hr5, hp5⟩; have HR5 := hid hr5; have HX5 := hid (show Px b w1 w5 from HX4.out.trans hp5); have HQ5 := hid hp5; clear hr5 hp5)
      | (have _ := HR3; go_at_call 12; refine (HP4.out _ _ (by first | exact HR3.out | exact HR3.out.drew)).mono ?_; rintro e w4 ⟨rfl, hr4, hp4⟩; have HR4 := hid hr4; have HX4 := hid (show Px b w1 w4 from by first | exact HX3.out.trans hp4 | exact HX3.out.trans ((Px.drewL _ _).trans hp4)); have HQ4 := hid hp4; clear hr4 hp4))
    all_goals
      go_wp2_with fail
      go_ret2
      have hne6 := Nat.ne_of_gt (RdX.lt HR6.out)
      first
        | exact ⟨s3, w6.heap.size, 0, 2, 3, [IntKind.i64.wrap (x4 - IntKind.i64.wrap (x5.tdiv 19)), x6, 3].take 2, rfl, HS3.out, rfl, by decide, Vals.px (vals_lit w6 [.int .i64 (IntKind.i64.wrap (x4 - IntKind.i64.wrap (x5.tdiv 19))), .int .i64 x6, .int .i64 3] 2 3) HQ7.out hne6, by rw [HBE.out]; exact HB1.out.trans (HX7.out.to_below (Nat.le_refl _) (Nat.le_of_lt HLT1.out))⟩
        | exact ⟨s3, w6.heap.size, 0, 2, 3, [x4 - x5 / 19, x6, 3].take 2, rfl, HS3.out, rfl, by decide, Vals.px (vals_lit w6 [.int .i64 (x4 - x5 / 19), .int .i64 x6, .int .i64 3] 2 3) HQ7.out hne6, by rw [HBE.out]; exact HB1.out.trans (HX7.out.to_below (Nat.le_refl _) (Nat.le_of_lt HLT1.out))⟩
        | exact ⟨s3, w7.heap.size, 0, 2, 3, [x4 - x5 / 19, x6, 3].take 2, rfl, HS3.out, rfl, by decide, vals_lit w7 [.int .i64 (x4 - x5 / 19), .int .i64 x6, .int .i64 3] 2 3, by rw [HBE.out]; exact HB1.out.trans ((HX7.out.alloc _).to_below (Nat.le_refl _) (Nat.le_of_lt HLT1.out))⟩
  · have hs1 : IntKind.i64.wrap (2 + 1) = 3 := by decide
    go_wp2_with fail
    go_region_with (first
      | (have _ := HR6; go_at_call 12; refine (HP7.out _ _ (by first | exact HR6.out | exact HR6.out.alloc _)).mono ?_; rintro e w7 ⟨rfl, hr7, hp7⟩; have HR7 := hid hr7; have HX7 := hid (show Px b w1 w7 from by first | exact HX6.out.trans hp7 | exact (HX6.out.alloc _).trans hp7); have HQ7 := hid hp7; clear hr7 hp7)
      | (have _ := HR5; go_at_call 12; refine (HP6.out _ _ (HR5.out)).mono ?_; rintro e w6 ⟨rfl, hr6, hp6⟩; have HR6 := hid hr6; have HX6 := hid (show Px b w1 w6 from HX5.out.trans hp6); have HQ6 := hid hp6; clear hr6 hp6)
      | (have _ := HR4; go_at_call 12; refine (HP5.out _ _ (HR4.out)).mono ?_; rintro e w5 ⟨rfl, hr5, hp5⟩; have HR5 := hid hr5; have HX5 := hid (show Px b w1 w5 from HX4.out.trans hp5); have HQ5 := hid hp5; clear hr5 hp5)
      | (have _ := HR3; go_at_call 12; refine (HP4.out _ _ (by first | exact HR3.out | exact HR3.out.drew)).mono ?_; rintro e w4 ⟨rfl, hr4, hp4⟩; have HR4 := hid hr4; have HX4 := hid (show Px b w1 w4 from by first | exact HX3.out.trans hp4 | exact HX3.out.trans ((Px.drewL _ _).trans hp4)); have HQ4 := hid hp4; clear hr4 hp4))
    all_goals
      go_wp2_with fail
      go_ret2
      have hne6 := Nat.ne_of_gt (RdX.lt HR6.out)
      first
        | exact ⟨s3, w6.heap.size, 0, 3, 3, [IntKind.i64.wrap (x4 - IntKind.i64.wrap (x5.tdiv 19)), x6, 3].take 3, rfl, HS3.out, rfl, by decide, Vals.px (vals_lit w6 [.int .i64 (IntKind.i64.wrap (x4 - IntKind.i64.wrap (x5.tdiv 19))), .int .i64 x6, .int .i64 3] 3 3) HQ7.out hne6, by rw [HBE.out]; exact HB1.out.trans (HX7.out.to_below (Nat.le_refl _) (Nat.le_of_lt HLT1.out))⟩
        | exact ⟨s3, w6.heap.size, 0, 3, 3, [x4 - x5 / 19, x6, 3].take 3, rfl, HS3.out, rfl, by decide, Vals.px (vals_lit w6 [.int .i64 (x4 - x5 / 19), .int .i64 x6, .int .i64 3] 3 3) HQ7.out hne6, by rw [HBE.out]; exact HB1.out.trans (HX7.out.to_below (Nat.le_refl _) (Nat.le_of_lt HLT1.out))⟩
        | exact ⟨s3, w7.heap.size, 0, 3, 3, [x4 - x5 / 19, x6, 3].take 3, rfl, HS3.out, rfl, by decide, vals_lit w7 [.int .i64 (x4 - x5 / 19), .int .i64 x6, .int .i64 3] 3 3, by rw [HBE.out]; exact HB1.out.trans ((HX7.out.alloc _).to_below (Nat.le_refl _) (Nat.le_of_lt HLT1.out))⟩
end Go.Proofs.Ytmffcicpiialcaa
