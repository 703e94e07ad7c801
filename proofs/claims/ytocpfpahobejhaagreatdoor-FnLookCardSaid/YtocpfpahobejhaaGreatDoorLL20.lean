/- Merged: DrwV, DrwYLook. -/
import Derived.Deep.RegionWith
import Derived.Deep.QuietTactic
import Derived.BigQuiet
import Derived.Test.YtocpfpahobejhaaGreatDoorLL17
import Derived.Test.YtocpfpahobejhaaGreatDoorLL12
namespace Go.Proofs.YtocpfpahobejhaaGreatDoor
open Go.RowKit

/-- What a draw of an environment leaves: two short lists of short texts. -/
def EnvDrawn (b q : Nat) (w : World) (e : Ending) (w' : World) : Prop :=
  ∃ (ns ts : List ByteArray) (p1 p2 : Option Addr) (n m c d : Nat), e = .returned (.tuple #[.slice p1 n c, .slice p2 m d]) ∧ ns.length = n ∧ ts.length = m ∧ n ≤ 5 ∧ m ≤ 5 ∧
    Vals w' p1 (ns.map Value.string) ∧ Vals w' p2 (ts.map Value.string) ∧ (∀ s ∈ ns, s.size ≤ 60) ∧ (∀ s ∈ ts, s.size ≤ 60) ∧ Rd w' b q ∧ Px b w w'
theorem sv_px {w w' : World} {b g n c : Nat} {l : List ByteArray} (h : SV w (some ⟨g, 0, none⟩) n c l) (hp : Px b w w') (hne : g ≠ b) : SV w' (some ⟨g, 0, none⟩) n c l :=
  ⟨h.1, h.2.1, fun i s hs => by
    obtain ⟨g2, he, hc⟩ := h.2.2 i s hs
    obtain rfl : g = g2 := by simpa using he
    exact ⟨g, rfl, hp.cell (a := ⟨g, i, none⟩) hne hc⟩⟩
theorem sv_vals {w : World} {p : Option Addr} {n c : Nat} {l : List ByteArray} (h : SV w p n c l) : Vals w p (l.map Value.string) := fun i v hv => by
  rw [List.getElem?_map] at hv
  cases hl : l[i]? with
  | none => rw [hl] at hv; cases hv
  | some s =>
    rw [hl] at hv
    obtain rfl : Value.string s = v := Option.some.inj hv
    obtain ⟨g, he, hc⟩ := h.2.2 i s hl
    exact ⟨g, 0, he, by simpa using hc⟩
theorem sv_vals_from {w : World} {g n c : Nat} {l : List ByteArray} (h : SV w (some ⟨g, 0, none⟩) n c l) : Vals w (some ⟨g, 1, none⟩) ((l.drop 1).map Value.string) := fun i v hv => by
  rw [List.getElem?_map, List.getElem?_drop] at hv
  cases hl : l[1 + i]? with
  | none => rw [hl] at hv; cases hv
  | some s =>
    rw [hl] at hv
    obtain rfl : Value.string s = v := Option.some.inj hv
    obtain ⟨g2, he, hc⟩ := h.2.2 (1 + i) s hl
    obtain rfl : g = g2 := by simpa using he
    exact ⟨g, 1, rfl, hc⟩
def ns0 : List ByteArray := [⟨#[97]⟩, ⟨#[120]⟩, ⟨#[110, 48]⟩]
def ts0 : List ByteArray := [⟨#[98]⟩, ⟨#[40, 42, 32, 98, 32, 98, 41]⟩, ⟨#[40, 117, 32, 40, 102, 32, 98, 41, 41]⟩]
theorem ns0_small : ∀ s ∈ ns0, s.size ≤ 60 := by intro s hs; simp only [ns0, List.mem_cons, List.mem_nil_iff, or_false] at hs; rcases hs with rfl | rfl | rfl <;> decide
theorem ts0_small : ∀ s ∈ ts0, s.size ≤ 60 := by intro s hs; simp only [ts0, List.mem_cons, List.mem_nil_iff, or_false] at hs; rcases hs with rfl | rfl | rfl <;> decide
theorem small_with {l : List ByteArray} (h : ∀ s ∈ l, s.size ≤ 60) (x : ByteArray) (hx : x.size ≤ 60) : ∀ s ∈ l ++ [x], s.size ≤ 60 := by
  intro s hs
  rcases List.mem_append.1 hs with hs | hs
  · exact h s hs
  · simp at hs; subst hs; exact hx
theorem envDrawn_with {b q : Nat} {w w4 w5 : World} {x y : ByteArray} (hx : x.size ≤ 60) (hy : y.size ≤ 60) {B1 B2 : Nat} {q1 q2 : Option Addr} {k1 k2 : Nat}
    (h1 : w4.ownsRow B1 9 1 (.slice q1 4 k1) 4 ((ns0 ++ [x]).map Value.string)) (h2 : w5.ownsRow B2 9 1 (.slice q2 4 k2) 4 ((ts0 ++ [y]).map Value.string))
    (h45 : Below w4.heap.size w4 w5) (hr : Rd w5 b q) (hp : Px b w w5) : EnvDrawn b q w (.returned (.tuple #[.slice q1 4 k1, .slice q2 4 k2])) w5 :=
  ⟨ns0 ++ [x], ts0 ++ [y], q1, q2, 4, 4, k1, k2, rfl, rfl, rfl, by decide, by decide, (vals_any h1).kept (Kept.of_below h45 (Nat.le_refl _)), vals_any h2, small_with ns0_small x hx, small_with ts0_small y hy, hr, hp⟩

set_option maxRecDepth 100000 in
set_option maxHeartbeats 4000000 in
theorem l91Env_any {w : World} {b q : Nat} (hr : Rd w b q) (hq : q + 10 ≤ 1099511627776) : Calls Tryz.prog 64 #[.pointer (some ⟨b, 0, none⟩)] w (EnvDrawn b (q + 10) w) := by
  have HLT := hid hr.lt
  have HR0 := hid hr
  have HN := hid (sv_lit w ns0 3 3 9 rfl)
  have HT := hid (sv_lit (w.alloc (.cells (ns0.map Value.string).toArray 9)) ts0 3 3 9 rfl)
  have HNK := hid (HN.out.kept ((Kept.refl _).alloc (Nat.le_refl _) (.cells (ts0.map Value.string).toArray 9)))
  have HX := hid (show Px b w ((w.alloc (.cells (ns0.map Value.string).toArray 9)).alloc (.cells (ts0.map Value.string).toArray 9)) from ((Px.refl b w).alloc _).alloc _)
  have HR := hid ((hr.alloc (.cells (ns0.map Value.string).toArray 9)).alloc (.cells (ts0.map Value.string).toArray 9))
  have hz1 : (w.alloc (.cells (ns0.map Value.string).toArray 9)).heap.size = w.heap.size + 1 := by simp
  rw [hz1] at HT
  obtain ⟨W, hW⟩ : ∃ W, (w.alloc (.cells (ns0.map Value.string).toArray 9)).alloc (.cells (ts0.map Value.string).toArray 9) = W := ⟨_, rfl⟩
  have HW := hid hW
  rw [hW] at HT HNK HX HR
  have HP := hid (pick_any HR.out (by omega) 12 (by omega))
  clear hr hW hz1
  go_enter Tryz.func64, Tryz.ntmps64
  go_wp2_with fail
  have HP2 := hid (show Calls Tryz.prog 47 #[.pointer (some ⟨b, 0, none⟩), .int .i64 12] ((w.alloc (.cells (ns0.map Value.string).toArray 9)).alloc (.cells (ts0.map Value.string).toArray 9)) (PickPost b (q + 1) 12 W) from by rw [HW.out]; exact HP.out)
  go_at_call 47
  refine HP2.out.mono ?_
  rintro e w3 ⟨x, rfl, hx0, hx1, _, hr3, hp3⟩
  have HR3 := hid hr3
  have HX3 := hid (HX.out.trans hp3)
  have HN3 := hid (sv_px HNK.out hp3 (by have := HLT.out; omega))
  have HT3 := hid (sv_px HT.out hp3 (by have := HLT.out; omega))
  have HZ3 := hid (show w.heap.size ≤ w3.heap.size from HX3.out.size)
  clear hr3 hp3 hx1 HP HP2 HN HT HR
  by_cases h0 : x = 0
  · subst h0
    have HV := hid (sv_vals_from HT3.out)
    go_wp2_with fail
    go_quiet (fail)
    go_wp2_with fail
    go_ret2
    have hkq : ∀ m, Kept w3 (w3.drewN m) := fun m => Kept.of_below (below_drewN (Below.refl w3.heap.size w3) m) (Nat.le_refl _)
    have hrq := rd_quiet ⟨HR3.out, HX3.out⟩
    exact ⟨ns0, ts0.drop 1, _, _, 3, 2, 3, 2, rfl, rfl, rfl, by decide, by decide, (sv_vals HN3.out).kept (hkq _), HV.out.kept (hkq _), ns0_small, fun s hs => ts0_small s (List.mem_of_mem_drop hs), (hrq _).1.le (by omega), (hrq _).2⟩
  have e0 : (x == 0) = false := beq_eq_false_iff_ne.2 h0
  by_cases h1 : x = 1
  · subst h1
    have HS1 := hid (sv_lit w3 [(⟨#[108, 101, 116]⟩ : ByteArray)] 1 1 9 rfl)
    have hl1 := hid (l2With_any ns0 [(⟨#[108, 101, 116]⟩ : ByteArray)] (some ⟨w.heap.size, 0, none⟩) (some ⟨w3.heap.size, 0, none⟩) 3 1 3 1 _ (HN3.out.kept ((Kept.refl _).alloc (Nat.le_refl _) (.cells ([(⟨#[108, 101, 116]⟩ : ByteArray)].map Value.string).toArray 9))) HS1.out (by omega) (by omega))
    go_wp2_with fail
    go_at_call 88
    refine hl1.out.mono ?_
    rintro e w4 ⟨q1, k1, rfl, ho1, hb1⟩
    have HO1 := hid ho1
    have HB1 := hid (((Below.refl w3.heap.size w3).alloc (Nat.le_refl _) (.cells ([(⟨#[108, 101, 116]⟩ : ByteArray)].map Value.string).toArray 9)).trans (hb1.mono (by simp)))
    have HT4 := hid (HT3.out.kept (Kept.of_below HB1.out (Nat.le_refl _)))
    have HS2 := hid (sv_lit w4 [(⟨#[98]⟩ : ByteArray)] 1 1 9 rfl)
    have hl2 := hid (l2With_any ts0 [(⟨#[98]⟩ : ByteArray)] (some ⟨w.heap.size + 1, 0, none⟩) (some ⟨w4.heap.size, 0, none⟩) 3 1 3 1 _ (HT4.out.kept ((Kept.refl _).alloc (Nat.le_refl _) (.cells ([(⟨#[98]⟩ : ByteArray)].map Value.string).toArray 9))) HS2.out (by omega) (by omega))
    clear ho1 hb1
    go_wp2_with fail
    go_at_call 88
    refine hl2.out.mono ?_
    rintro e w5 ⟨q2, k2, rfl, ho2, hb2⟩
    have HO2 := hid ho2
    have HB2 := hid (((Below.refl w4.heap.size w4).alloc (Nat.le_refl _) (.cells ([(⟨#[98]⟩ : ByteArray)].map Value.string).toArray 9)).trans (hb2.mono (by simp)))
    have HR5 := hid ((HR3.out.below HB1.out (Nat.lt_of_lt_of_le HLT.out HZ3.out) (Nat.le_refl _)).below HB2.out (Nat.lt_of_lt_of_le HLT.out (Nat.le_trans HZ3.out HB1.out.size)) (Nat.le_refl _))
    have HX5 := hid ((HX3.out.trans (Px.below HB1.out (Nat.le_refl _))).trans (Px.below HB2.out (Nat.le_refl _)))
    clear ho2 hb2
    go_wp2_with fail
    go_ret2
    exact envDrawn_with (x := (⟨#[108, 101, 116]⟩ : ByteArray)) (y := (⟨#[98]⟩ : ByteArray)) (by decide) (by decide) HO1.out HO2.out HB2.out (HR5.out.le (by omega)) HX5.out
  have e1 : (x == 1) = false := beq_eq_false_iff_ne.2 h1
  by_cases h2 : x = 2
  · subst h2
    have HS1 := hid (sv_lit w3 [(⟨#[97]⟩ : ByteArray)] 1 1 9 rfl)
    have hl1 := hid (l2With_any ns0 [(⟨#[97]⟩ : ByteArray)] (some ⟨w.heap.size, 0, none⟩) (some ⟨w3.heap.size, 0, none⟩) 3 1 3 1 _ (HN3.out.kept ((Kept.refl _).alloc (Nat.le_refl _) (.cells ([(⟨#[97]⟩ : ByteArray)].map Value.string).toArray 9))) HS1.out (by omega) (by omega))
    go_wp2_with fail
    go_at_call 88
    refine hl1.out.mono ?_
    rintro e w4 ⟨q1, k1, rfl, ho1, hb1⟩
    have HO1 := hid ho1
    have HB1 := hid (((Below.refl w3.heap.size w3).alloc (Nat.le_refl _) (.cells ([(⟨#[97]⟩ : ByteArray)].map Value.string).toArray 9)).trans (hb1.mono (by simp)))
    have HT4 := hid (HT3.out.kept (Kept.of_below HB1.out (Nat.le_refl _)))
    have HS2 := hid (sv_lit w4 [(⟨#[40, 42, 32, 98, 32, 98, 41]⟩ : ByteArray)] 1 1 9 rfl)
    have hl2 := hid (l2With_any ts0 [(⟨#[40, 42, 32, 98, 32, 98, 41]⟩ : ByteArray)] (some ⟨w.heap.size + 1, 0, none⟩) (some ⟨w4.heap.size, 0, none⟩) 3 1 3 1 _ (HT4.out.kept ((Kept.refl _).alloc (Nat.le_refl _) (.cells ([(⟨#[40, 42, 32, 98, 32, 98, 41]⟩ : ByteArray)].map Value.string).toArray 9))) HS2.out (by omega) (by omega))
    clear ho1 hb1
    go_wp2_with fail
    go_at_call 88
    refine hl2.out.mono ?_
    rintro e w5 ⟨q2, k2, rfl, ho2, hb2⟩
    have HO2 := hid ho2
    have HB2 := hid (((Below.refl w4.heap.size w4).alloc (Nat.le_refl _) (.cells ([(⟨#[40, 42, 32, 98, 32, 98, 41]⟩ : ByteArray)].map Value.string).toArray 9)).trans (hb2.mono (by simp)))
    have HR5 := hid ((HR3.out.below HB1.out (Nat.lt_of_lt_of_le HLT.out HZ3.out) (Nat.le_refl _)).below HB2.out (Nat.lt_of_lt_of_le HLT.out (Nat.le_trans HZ3.out HB1.out.size)) (Nat.le_refl _))
    have HX5 := hid ((HX3.out.trans (Px.below HB1.out (Nat.le_refl _))).trans (Px.below HB2.out (Nat.le_refl _)))
    clear ho2 hb2
    go_wp2_with fail
    go_ret2
    exact envDrawn_with (x := (⟨#[97]⟩ : ByteArray)) (y := (⟨#[40, 42, 32, 98, 32, 98, 41]⟩ : ByteArray)) (by decide) (by decide) HO1.out HO2.out HB2.out (HR5.out.le (by omega)) HX5.out
  have e2 : (x == 2) = false := beq_eq_false_iff_ne.2 h2
  by_cases h3 : x = 3
  · subst h3
    have HS1 := hid (sv_lit w3 [(⟨#[122]⟩ : ByteArray)] 1 1 9 rfl)
    have hl1 := hid (l2With_any ns0 [(⟨#[122]⟩ : ByteArray)] (some ⟨w.heap.size, 0, none⟩) (some ⟨w3.heap.size, 0, none⟩) 3 1 3 1 _ (HN3.out.kept ((Kept.refl _).alloc (Nat.le_refl _) (.cells ([(⟨#[122]⟩ : ByteArray)].map Value.string).toArray 9))) HS1.out (by omega) (by omega))
    go_wp2_with fail
    go_at_call 88
    refine hl1.out.mono ?_
    rintro e w4 ⟨q1, k1, rfl, ho1, hb1⟩
    have HO1 := hid ho1
    have HB1 := hid (((Below.refl w3.heap.size w3).alloc (Nat.le_refl _) (.cells ([(⟨#[122]⟩ : ByteArray)].map Value.string).toArray 9)).trans (hb1.mono (by simp)))
    have HT4 := hid (HT3.out.kept (Kept.of_below HB1.out (Nat.le_refl _)))
    have HS2 := hid (sv_lit w4 [(⟨#[40, 102, 32, 98, 41]⟩ : ByteArray)] 1 1 9 rfl)
    have hl2 := hid (l2With_any ts0 [(⟨#[40, 102, 32, 98, 41]⟩ : ByteArray)] (some ⟨w.heap.size + 1, 0, none⟩) (some ⟨w4.heap.size, 0, none⟩) 3 1 3 1 _ (HT4.out.kept ((Kept.refl _).alloc (Nat.le_refl _) (.cells ([(⟨#[40, 102, 32, 98, 41]⟩ : ByteArray)].map Value.string).toArray 9))) HS2.out (by omega) (by omega))
    clear ho1 hb1
    go_wp2_with fail
    go_at_call 88
    refine hl2.out.mono ?_
    rintro e w5 ⟨q2, k2, rfl, ho2, hb2⟩
    have HO2 := hid ho2
    have HB2 := hid (((Below.refl w4.heap.size w4).alloc (Nat.le_refl _) (.cells ([(⟨#[40, 102, 32, 98, 41]⟩ : ByteArray)].map Value.string).toArray 9)).trans (hb2.mono (by simp)))
    have HR5 := hid ((HR3.out.below HB1.out (Nat.lt_of_lt_of_le HLT.out HZ3.out) (Nat.le_refl _)).below HB2.out (Nat.lt_of_lt_of_le HLT.out (Nat.le_trans HZ3.out HB1.out.size)) (Nat.le_refl _))
    have HX5 := hid ((HX3.out.trans (Px.below HB1.out (Nat.le_refl _))).trans (Px.below HB2.out (Nat.le_refl _)))
    clear ho2 hb2
    go_wp2_with fail
    go_ret2
    exact envDrawn_with (x := (⟨#[122]⟩ : ByteArray)) (y := (⟨#[40, 102, 32, 98, 41]⟩ : ByteArray)) (by decide) (by decide) HO1.out HO2.out HB2.out (HR5.out.le (by omega)) HX5.out
  have e3 : (x == 3) = false := beq_eq_false_iff_ne.2 h3
  clear h0 h1 h2 h3
  go_wp2_with fail
  go_ret2
  exact ⟨ns0, ts0, _, _, 3, 3, 3, 3, rfl, rfl, rfl, by decide, by decide, sv_vals HN3.out, sv_vals HT3.out, ns0_small, ts0_small, HR3.out.le (by omega), HX3.out⟩
end Go.Proofs.YtocpfpahobejhaaGreatDoor

namespace Go.Proofs.YtocpfpahobejhaaGreatDoor
open Go.RowKit

def nmL : List ByteArray := [⟨#[97]⟩, ⟨#[120]⟩, ⟨#[110, 48]⟩, ⟨#[113]⟩]
/-- A reader's block holds no text. -/
theorem rd_ne {w : World} {b q : Nat} {a : Addr} {s : ByteArray} (hr : Rd w b q) (h : w.cell? a = some (.string s)) : a.block ≠ b := by
  intro e
  obtain ⟨p, n, c, zs, k, hb, _⟩ := hr
  unfold World.cell? at h
  rw [e, hb] at h
  simp only at h
  split at h
  · cases h
  · have hs := Array.getElem?_eq_some_iff.1 h
    obtain ⟨hi, hv⟩ := hs
    have h2 : a.off < 2 := by simpa using hi
    have : a.off = 0 ∨ a.off = 1 := by omega
    rcases this with h0 | h0
    · rw [h0] at h; simp at h
    · rw [h0] at h; simp at h
theorem vals_px_str {w w' : World} {b q : Nat} {p : Option Addr} {l : List ByteArray} (h : Vals w p (l.map Value.string)) (hr : Rd w b q) (hp : Px b w w') : Vals w' p (l.map Value.string) := fun i v hi => by
  obtain ⟨g, o, he, hc⟩ := h i v hi
  rw [List.getElem?_map] at hi
  cases hl : l[i]? with
  | none => rw [hl] at hi; cases hi
  | some s =>
    rw [hl] at hi
    obtain rfl : Value.string s = v := Option.some.inj hi
    exact ⟨g, o, he, hp.cell (rd_ne hr hc) hc⟩
theorem results_tmp3k {fn : Func} {t u v : Tmp} (h : fn.results = #[.tmp t, .tmp u, .tmp v]) (tmps : Array Value) (P : Program) (w : World) :
    (results fn tmps).run P w = .ok (.tuple #[tmps.getD t undef, tmps.getD u undef, tmps.getD v undef]) w := by
  simp [results, h]
set_option maxRecDepth 100000 in
set_option maxHeartbeats 2000000 in
theorem drawLook_any {w : World} {p : Option Addr} {n c : Nat} {zs : List Int} (hl : zs.length = n) (hn : n ≤ 100000000) (hz : ∀ z ∈ zs, 0 ≤ z ∧ z ≤ 255) (hp : ∀ g o s, p = some ⟨g, o, s⟩ → n = 0 ∨ g < w.heap.size) (hv : Vals w p (u8s zs)) (hc : n ≤ c) :
    Calls Tryz.prog 35 #[.slice p n c] w fun e w' => ∃ (ns ts : List ByteArray) (p1 p2 : Option Addr) (n m c d : Nat) (s : ByteArray), e = .returned (.tuple #[.slice p1 n c, .slice p2 m d, .string s]) ∧ ns.length = n ∧ ts.length = m ∧ n ≤ 5 ∧ m ≤ 5 ∧
      Vals w' p1 (ns.map Value.string) ∧ Vals w' p2 (ts.map Value.string) ∧ (∀ s ∈ ns, s.size ≤ 60) ∧ (∀ s ∈ ts, s.size ≤ 60) ∧ s.size ≤ 60 ∧ Below w.heap.size w w' := by
  have HO := hid (open_any hl hn hz hp hv hc)
  clear hl hz hp hv
  obtain ⟨b, hb⟩ : ∃ b, w.heap.size = b := ⟨_, rfl⟩
  go_enter Tryz.func35, Tryz.ntmps35
  go_wp2_with fail
  go_at_call 41
  refine HO.out.mono ?_
  rintro e w1 ⟨rfl, hr1, hb1⟩
  rw [hb] at hr1 hb1 ⊢
  have HBE := hid hb
  clear hb
  have HB1 := hid hb1
  have HT := hid (l91Env_any hr1 (by omega))
  have HR := hid hr1.lt
  clear hr1 hb1
  go_wp2_with fail
  go_at_call 64
  refine HT.out.mono ?_
  rintro e w2 ⟨ns, ts, p1, p2, n1, m1, c1, d1, rfl, h1, h2, h3, h4, h5, h6, h7, h8, hr2, hp2⟩
  have HX2 := hid hp2
  have H5 := hid h5
  have H6 := hid h6
  have HR2 := hid hr2
  have hlt := hr2.lt
  have HOF := hid (of_any (hr2.alloc (.cells (nmL.map Value.string).toArray 9)) (by omega) w2.heap.size 4 4 60 nmL (sv_lit w2 nmL 4 4 9 rfl) (by omega) (by omega) (by omega) (by intro s hs; simp only [nmL, List.mem_cons, List.mem_nil_iff, or_false] at hs; rcases hs with rfl | rfl | rfl | rfl <;> decide))
  clear hr2 hp2 h5 h6
  go_wp2_with fail
  go_at_call 48
  refine HOF.out.mono ?_
  rintro e w3 ⟨s3, rfl, hs3, hr3, hp3⟩
  have HX3 := hid (((Px.refl b w2).alloc (.cells (nmL.map Value.string).toArray 9)).trans hp3)
  have HV1 := hid (vals_px_str H5.out HR2.out HX3.out)
  have HV2 := hid (vals_px_str H6.out HR2.out HX3.out)
  clear hr3 hp3
  go_wp2_with fail
  ((try simp only [Exit.inBlock, Exit.then]); refine bodyPost_ret (results_tmp3k rfl _ _ _) rfl ?_)
  exact ⟨ns, ts, p1, p2, n1, m1, c1, d1, s3, rfl, h1, h2, h3, h4, HV1.out, HV2.out, h7, h8, hs3, by rw [HBE.out]; exact HB1.out.trans ((HX2.out.trans HX3.out).to_below (Nat.le_refl _) (by have := HR.out; omega))⟩
end Go.Proofs.YtocpfpahobejhaaGreatDoor
