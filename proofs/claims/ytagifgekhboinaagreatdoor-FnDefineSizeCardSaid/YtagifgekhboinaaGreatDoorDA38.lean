/- Merged: DrwE, DrwYDefine. -/
import Derived.Deep.RegionWith
import Derived.Test.YtagifgekhboinaaGreatDoorDA16
import Derived.Test.YtagifgekhboinaaGreatDoorDA22
namespace Go.Proofs.YtagifgekhboinaaGreatDoor
open Go.RowKit

/-- What a draw of an element leaves: a number. -/
def ElDrawn (b q : Nat) (w : World) (e : Ending) (w' : World) : Prop := ∃ x : Int, e = .returned (.int .i64 x) ∧ Rd w' b q ∧ Px b w w'

theorem results_tmp3e {fn : Func} {t u v : Tmp} (h : fn.results = #[.tmp t, .tmp u, .tmp v]) (tmps : Array Value) (P : Program) (w : World) :
    (results fn tmps).run P w = .ok (.tuple #[tmps.getD t undef, tmps.getD u undef, tmps.getD v undef]) w := by
  simp [results, h]
theorem de_range (ty : Ty) : -1 ≤ cntO (some ty) ∧ cntO (some ty) ≤ 5000 := by
  show -1 ≤ cntV ty.cnt ∧ cntV ty.cnt ≤ 5000
  cases h : ty.cnt with
  | none => exact ⟨by decide, by decide⟩
  | some n =>
    have := cnt_range ty n h
    show -1 ≤ (n : Int) ∧ (n : Int) ≤ 5000
    omega
theorem Px.drewE (b : Nat) (w : World) : Px b w w.drew := Px.below ((Below.refl w.heap.size w).drew) (Nat.le_refl _)
theorem lw_two (w : World) (x y : Value) (t : TypeId) : (w.alloc (.cells #[x, y] t)).cell? ⟨w.heap.size, 0, none⟩ = some x ∧ (w.alloc (.cells #[x, y] t)).cell? ⟨w.heap.size, 1, none⟩ = some y := by
  have h := heap_alloc_new w (.cells #[x, y] t)
  constructor
  · unfold World.cell?; simp only [h]; rfl
  · unfold World.cell?; simp only [h]; rfl
theorem two_drawn {x : Int} (h0 : 0 ≤ x) (h2 : x < 2) : x = 0 ∨ x = 1 := by omega

set_option maxRecDepth 100000 in
set_option maxHeartbeats 4000000 in
theorem l91Element_any {w : World} {b q : Nat} (hr : Rd w b q) (hq : q + 10 ≤ 1099511627776) (s : ByteArray) (hs : s.size ≤ 400000000) :
    Calls Tryz.prog 28 #[.pointer (some ⟨b, 0, none⟩), .string s] w (ElDrawn b (q + 10) w) := by
  have HC := hid (fun W => specTypeCount_any s hs W)
  have hlo : -1 ≤ cntO (readTy s) ∧ cntO (readTy s) ≤ 5000 := by
    cases hr : readTy s with
    | none => exact ⟨by decide, by decide⟩
    | some ty => exact de_range ty
  obtain ⟨N, hN⟩ : ∃ N, cntO (readTy s) = N := ⟨_, rfl⟩
  rw [hN] at HC hlo
  obtain ⟨hN0, hN5⟩ := hlo
  have HR0 := hid hr
  have HLT := hid hr.lt
  clear hr hN
  by_cases h1 : N < 1
  · have hmx : max (0 : Int) N = 0 := by omega
    go_enter Tryz.func28, Tryz.ntmps28
    go_wp2_with fail
    go_at_call 56
    refine (HC.out _).mono ?_
    rintro e w1 ⟨rfl, hb1⟩
    have hr1 := HR0.out.below hb1 HLT.out (Nat.le_refl _)
    have HX1 := hid (Px.below (b := b) hb1 (Nat.le_refl _))
    have HR1 := hid hr1
    have HP := hid (fun W (h : Rd W b q) => pick_any h (by omega) 2 (by omega))
    clear hb1 hr1
    go_wp2_with fail
    go_at_call 53
    refine (pick_any (HR1.out.alloc _) (by omega) 2 (by omega)).mono ?_
    rintro e w9 ⟨x9, rfl, hx9a, hx9b, _, hr9, hp9⟩
    have hx9c : x9 < 2 := hx9b (by decide)
    have HR9 := hid hr9
    have hne : w1.heap.size ≠ b := Nat.ne_of_gt HR1.out.lt
    have hcl := lw_two w1 (.int .i64 (-1)) (.int .i64 0) 3
    have hc0 := hp9.cell (a := ⟨w1.heap.size, 0, none⟩) hne hcl.1
    have hc1 := hp9.cell (a := ⟨w1.heap.size, 1, none⟩) hne hcl.2
    have HX9 := hid ((HX1.out.alloc _).trans hp9)
    clear hr9 hp9 hx9b hcl hne
    rcases two_drawn hx9a hx9c with rfl | rfl
    all_goals
      go_wp2_with fail
      go_ret
      exact ⟨_, rfl, HR9.out.le (by omega), HX9.out⟩
  · have hmx : max (0 : Int) N = N := by omega
    go_enter Tryz.func28, Tryz.ntmps28
    go_wp2_with fail
    go_at_call 56
    refine (HC.out _).mono ?_
    rintro e w1 ⟨rfl, hb1⟩
    have hr1 := HR0.out.below hb1 HLT.out (Nat.le_refl _)
    have HX1 := hid (Px.below (b := b) hb1 (Nat.le_refl _))
    have HR1 := hid hr1
    clear hb1 hr1
    go_wp2_with fail
    go_at_call 53
    refine (pick_any HR1.out (by omega) 20 (by omega)).mono ?_
    rintro e w2 ⟨x2, rfl, hx2a, hx2b, _, hr2, hp2⟩
    have HR2 := hid hr2
    have HX2 := hid (HX1.out.trans hp2)
    clear hr2 hp2 hx2b
    by_cases hz : x2 = 0
    · subst hz
      go_wp2_with fail
      go_at_call 53
      refine (pick_any (HR2.out.alloc _) (by omega) 2 (by omega)).mono ?_
      rintro e w9 ⟨x9, rfl, hx9a, hx9b, _, hr9, hp9⟩
      have hx9c : x9 < 2 := hx9b (by decide)
      have HR9 := hid hr9
      have hne : w2.heap.size ≠ b := Nat.ne_of_gt HR2.out.lt
      have hcl := lw_two w2 (.int .i64 (-1)) (.int .i64 N) 3
      have hc0 := hp9.cell (a := ⟨w2.heap.size, 0, none⟩) hne hcl.1
      have hc1 := hp9.cell (a := ⟨w2.heap.size, 1, none⟩) hne hcl.2
      have HX9 := hid ((HX2.out.alloc _).trans hp9)
      clear hr9 hp9 hx9b hcl hne
      rcases two_drawn hx9a hx9c with rfl | rfl
      all_goals
        go_wp2_with fail
        go_ret
        exact ⟨_, rfl, HR9.out.le (by omega), HX9.out⟩
    · have hzf : (x2 == 0) = false := beq_eq_false_iff_ne.2 hz
      clear hz
      go_wp2_with fail
      go_at_call 53
      refine (pick_any HR2.out (by omega) 250 (by omega)).mono ?_
      rintro e w4 ⟨x4, rfl, hx4a, hx4b, _, hr4, hp4⟩
      have hx4c : x4 < 250 := hx4b (by decide)
      have HR4 := hid hr4
      have HX4 := hid (HX2.out.trans hp4)
      have hm0 : (0 : Int) ≤ x4 * 250 := by omega
      clear hr4 hp4 hx4b
      go_wp2_with fail
      go_at_call 53
      refine (pick_any HR4.out (by omega) 250 (by omega)).mono ?_
      rintro e w5 ⟨x5, rfl, hx5a, hx5b, _, hr5, hp5⟩
      have hx5c : x5 < 250 := hx5b (by decide)
      have HR5 := hid hr5
      have HX5 := hid (HX4.out.trans hp5)
      have hN1 : 1 ≤ N := by omega
      clear hr5 hp5 hx5b
      go_wp2_with fail
      go_ret
      exact ⟨_, rfl, HR5.out.le (by omega), HX5.out⟩
end Go.Proofs.YtagifgekhboinaaGreatDoor

namespace Go.Proofs.YtagifgekhboinaaGreatDoor
open Go.RowKit

set_option maxRecDepth 100000 in
set_option maxHeartbeats 2000000 in
theorem l92Any_any {w : World} {b q : Nat} (hr1 : Rd w b q) (hq : q + 200 ≤ 1099511627776) :
    Calls Tryz.prog 13 #[.pointer (some ⟨b, 0, none⟩)] w fun e w' => ∃ (s : ByteArray) (k : Int), e = .returned (.tuple #[.string s, .int .i64 k]) ∧ s.size ≤ 60 ∧ Rd w' b (q + 200) ∧ Px b w w' := by
  have HLT1 := hid hr1.lt
  have HT := hid (type_any hr1 (by omega))
  clear hr1
  go_enter Tryz.func13, Tryz.ntmps13
  go_wp2_with fail
  go_at_call 27
  refine HT.out.mono ?_
  rintro e w2 ⟨s2, rfl, hs2, hr2, hp2⟩
  have HR2 := hid hr2
  have HX2 := hid hp2
  have hlt := hr2.lt
  have HO2 := hid (rof_any (hr2.alloc (.cells ([(⟨#[98]⟩ : ByteArray), (⟨#[40, 42, 32, 98, 32, 98, 41]⟩ : ByteArray), (⟨#[40, 102, 32, 98, 41]⟩ : ByteArray), (⟨#[40, 62, 32, 98, 32, 40, 102, 32, 98, 41, 41]⟩ : ByteArray), (⟨#[40, 38, 32, 40, 102, 32, 98, 41, 32, 40, 102, 32, 98, 41, 41]⟩ : ByteArray), (⟨#[40, 117, 32, 40, 102, 32, 98, 41, 41]⟩ : ByteArray), (⟨#[40, 102, 32, 40, 42, 32, 98, 32, 98, 41, 41]⟩ : ByteArray), (⟨#[40, 62, 32, 40, 42, 32, 98, 32, 98, 41, 32, 40, 102, 32, 98, 41, 41]⟩ : ByteArray), (⟨#[40, 117, 32, 40, 62, 32, 98, 32, 40, 102, 32, 98, 41, 41, 41]⟩ : ByteArray), (⟨#[40, 62, 32, 98, 32, 40, 62, 32, 98, 32, 40, 102, 32, 98, 41, 41, 41]⟩ : ByteArray), s2].map Value.string).toArray 9)) (by omega) w2.heap.size 11 11 60 [(⟨#[98]⟩ : ByteArray), (⟨#[40, 42, 32, 98, 32, 98, 41]⟩ : ByteArray), (⟨#[40, 102, 32, 98, 41]⟩ : ByteArray), (⟨#[40, 62, 32, 98, 32, 40, 102, 32, 98, 41, 41]⟩ : ByteArray), (⟨#[40, 38, 32, 40, 102, 32, 98, 41, 32, 40, 102, 32, 98, 41, 41]⟩ : ByteArray), (⟨#[40, 117, 32, 40, 102, 32, 98, 41, 41]⟩ : ByteArray), (⟨#[40, 102, 32, 40, 42, 32, 98, 32, 98, 41, 41]⟩ : ByteArray), (⟨#[40, 62, 32, 40, 42, 32, 98, 32, 98, 41, 32, 40, 102, 32, 98, 41, 41]⟩ : ByteArray), (⟨#[40, 117, 32, 40, 62, 32, 98, 32, 40, 102, 32, 98, 41, 41, 41]⟩ : ByteArray), (⟨#[40, 62, 32, 98, 32, 40, 62, 32, 98, 32, 40, 102, 32, 98, 41, 41, 41]⟩ : ByteArray), s2] (sv_lit w2 _ 11 11 9 rfl) (by omega) (by omega) (by omega) (by
    intro s hs
    simp only [List.mem_cons, List.mem_nil_iff, or_false] at hs
    rcases hs with rfl | rfl | rfl | rfl | rfl | rfl | rfl | rfl | rfl | rfl | rfl
    · decide
    · decide
    · decide
    · decide
    · decide
    · decide
    · decide
    · decide
    · decide
    · decide
    · exact hs2))
  clear hr2 hp2 hs2
  go_wp2_with fail
  go_at_call 26
  refine HO2.out.mono ?_
  rintro e w3 ⟨s3, rfl, hs3, hr3, hp3⟩
  have HR3 := hid hr3
  have HX3 := hid ((HX2.out.alloc _).trans hp3)
  clear hr3 hp3
  go_wp2_with fail
  go_at_call 28
  refine (l91Element_any HR3.out (by omega) s3 (by omega)).mono ?_
  rintro e w4 ⟨x4, rfl, hr4, hp4⟩
  have HR4 := hid hr4
  have HX4 := hid (HX3.out.trans hp4)
  clear hr4 hp4
  go_wp2_with fail
  go_ret2
  exact ⟨s3, _, rfl, hs3, HR4.out.le (by omega), HX4.out⟩

set_option maxRecDepth 100000 in
set_option maxHeartbeats 2000000 in
theorem drawDefineSize_any {w : World} {p : Option Addr} {n c : Nat} {zs : List Int} (hl : zs.length = n) (hn : n ≤ 100000000) (hz : ∀ z ∈ zs, 0 ≤ z ∧ z ≤ 255) (hp : ∀ g o s, p = some ⟨g, o, s⟩ → n = 0 ∨ g < w.heap.size) (hv : Vals w p (u8s zs)) (hc : n ≤ c) :
    Calls Tryz.prog 7 #[.slice p n c] w fun e w' => ∃ (s : ByteArray) (k : Int), e = .returned (.tuple #[.string s, .int .i64 k]) ∧ s.size ≤ 60 ∧ Below w.heap.size w w' := by
  have HO := hid (open_any hl hn hz hp hv hc)
  clear hl hz hp hv
  obtain ⟨b, hb⟩ : ∃ b, w.heap.size = b := ⟨_, rfl⟩
  go_enter Tryz.func7, Tryz.ntmps7
  go_wp2_with fail
  go_at_call 14
  refine HO.out.mono ?_
  rintro e w1 ⟨rfl, hr1, hb1⟩
  rw [hb] at hr1 hb1 ⊢
  have HBE := hid hb
  have HLT1 := hid hr1.lt
  have HB1 := hid hb1
  have HT := hid (l92Any_any hr1 (by omega))
  clear hr1 hb1 hb
  go_wp2_with fail
  go_at_call 13
  refine HT.out.mono ?_
  rintro e w2 ⟨s2, k2, rfl, hs2, hr2, hp2⟩
  have HX2 := hid hp2
  clear hr2 hp2
  go_wp2_with fail
  go_ret2
  exact ⟨s2, _, rfl, hs2, by rw [HBE.out]; exact HB1.out.trans (HX2.out.to_below (Nat.le_refl _) (Nat.le_of_lt HLT1.out))⟩
end Go.Proofs.YtagifgekhboinaaGreatDoor
