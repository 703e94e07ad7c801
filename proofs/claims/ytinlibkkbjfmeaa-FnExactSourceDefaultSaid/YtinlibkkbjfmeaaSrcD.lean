/- The model's simple expression of a source type. -/
import Derived.Test.YtinlibkkbjfmeaaSrcT
import Derived.Test.YtinlibkkbjfmeaaText
import Derived.Deep.RegionHeld3
namespace Go.Proofs.Ytinlibkkbjfmeaa
open Go.RowKit

/-- A tree of three parts in memory. -/
theorem tin3 {w : World} {S : Nat → Prop} {q x y : Tree} {h : Hd} (ht : TIn w S (.node [q, x, y]) h) : ∃ (b cap : Nat) (A : Nat → Hd), h = ⟨ByteArray.empty, some ⟨b, 0, none⟩, 3, cap⟩ ∧ (3 ≤ cap ∧ cap ≤ maxLen) ∧
    (∀ i, i < 3 → w.cell? ⟨b, i * 2, none⟩ = some (.string (A i).a)) ∧ (∀ i, i < 3 → w.cell? ⟨b, i * 2 + 1, none⟩ = some (.slice (A i).p (A i).l (A i).c)) ∧ TIn w S q (A 0) ∧ TIn w S x (A 1) ∧ TIn w S y (A 2) := by
  cases ht with
  | node ps b cap A hp hl hc hS hA hB hps => exact ⟨b, cap, A, rfl, ⟨hl, hc⟩, hA, hB, hps 0 q rfl, hps 1 x rfl, hps 2 y rfl⟩

set_option maxRecDepth 100000 in
set_option maxHeartbeats 2000000 in
theorem l7Default_pair {w : World} {b cap : Nat} {hd a1 a2 : ByteArray} {p0 p1 p2 : Option Addr} {n0 m0 n1 m1 n2 m2 : Nat} {A B : ByteArray} (hcap : 3 ≤ cap ∧ cap ≤ maxLen) (e0 : (hd.toList == [42]) = true)
    (c0 : w.cell? ⟨b, 0, none⟩ = some (.string hd)) (c1 : w.cell? ⟨b, 1, none⟩ = some (.slice p0 n0 m0))
    (c2 : w.cell? ⟨b, 2, none⟩ = some (.string a1)) (c3 : w.cell? ⟨b, 3, none⟩ = some (.slice p1 n1 m1)) (c4 : w.cell? ⟨b, 4, none⟩ = some (.string a2)) (c5 : w.cell? ⟨b, 5, none⟩ = some (.slice p2 n2 m2))
    (H1 : ∀ W, Kept w W → w.heap.size ≤ W.heap.size → Calls Try.prog 15 #[.agg #[.string a1, .slice p1 n1 m1]] W fun e w' => e = .returned (.string A) ∧ Below W.heap.size W w')
    (H2 : ∀ W, Kept w W → w.heap.size ≤ W.heap.size → Calls Try.prog 15 #[.agg #[.string a2, .slice p2 n2 m2]] W fun e w' => e = .returned (.string B) ∧ Below W.heap.size W w')
    (hA : A.size ≤ 24000) (hB : B.size ≤ 24000) :
    Calls Try.prog 15 #[.agg #[.string ByteArray.empty, .slice (some ⟨b, 0, none⟩) 3 cap]] w fun e w' => e = .returned (.string (((({ data := #[40, 112, 97, 105, 114, 32] } : ByteArray) ++ A) ++ ({ data := #[32] } : ByteArray)) ++ B ++ ({ data := #[41] } : ByteArray))) ∧ Below w.heap.size w w' := by
  have hmc : cap ≤ 9223372036854775807 := by have := hcap.2; unfold maxLen at this; omega
  have s1 : ¬ 9223372036854775807 < 6 + A.size := by omega
  have s2 : ¬ 9223372036854775807 < 6 + A.size + 1 := by omega
  have s3 : ¬ 9223372036854775807 < 6 + A.size + 1 + B.size := by omega
  have s4 : ¬ 9223372036854775807 < 6 + A.size + 1 + B.size + 1 := by omega
  have HC1 := hid H1
  have HC2 := hid H2
  have KC := hid (fun W (h : Kept w W) => (show W.cell? ⟨b, 0, none⟩ = some (.string hd) ∧ W.cell? ⟨b, 1, none⟩ = some (.slice p0 n0 m0) ∧ W.cell? ⟨b, 2, none⟩ = some (.string a1) ∧ W.cell? ⟨b, 3, none⟩ = some (.slice p1 n1 m1) ∧ W.cell? ⟨b, 4, none⟩ = some (.string a2) ∧ W.cell? ⟨b, 5, none⟩ = some (.slice p2 n2 m2) from ⟨h.cell c0, h.cell c1, h.cell c2, h.cell c3, h.cell c4, h.cell c5⟩))
  obtain ⟨W0, hW0⟩ : ∃ W0, W0 = w.alloc (.cells #[.string ByteArray.empty, .slice (some ⟨b, 0, none⟩) 3 cap] 27) := ⟨_, rfl⟩
  have hs0 : W0.heap.size = w.heap.size + 1 := by rw [hW0]; simp
  have hb0 : Below w.heap.size w W0 := by rw [hW0]; exact (Below.refl _ _).alloc (Nat.le_refl _) _
  have k0 : Kept w W0 := Kept.of_below hb0 (Nat.le_refl _)
  have hn0 := heap_new w (.cells #[.string ByteArray.empty, .slice (some ⟨b, 0, none⟩) 3 cap] 27) w.heap.size rfl
  rw [← hW0] at hn0
  have KB := hid (fun W (h : Below W0.heap.size W0 W) => (show W.cell? ⟨w.heap.size, 0, none⟩ = some (.string ByteArray.empty) ∧ W.cell? ⟨w.heap.size, 1, none⟩ = some (.slice (some ⟨b, 0, none⟩) 3 cap) from by
    have e := cells_of_pair (block_below hn0 h (by omega))
    exact ⟨e.1, e.2.1⟩))
  have HB0 := hid hb0
  have K0 := hid k0
  obtain ⟨d00, d000, d01, d02, d03, d04⟩ := KC.out W0 k0
  obtain ⟨d11, d12⟩ := KB.out W0 (Below.refl _ _)
  have hs1 : w.heap.size ≤ W0.heap.size := by omega
  have KC1 := hid (fun W (h : Below W0.heap.size W0 W) => (show (W.cell? ⟨b, 2, none⟩ = some (.string a1) ∧ W.cell? ⟨b, 3, none⟩ = some (.slice p1 n1 m1) ∧ W.cell? ⟨b, 4, none⟩ = some (.string a2) ∧ W.cell? ⟨b, 5, none⟩ = some (.slice p2 n2 m2)) ∧ Kept w W from ⟨(KC.out W (k0.below h hs1)).2.2, k0.below h hs1⟩))
  have KB1 := KB
  have HS1 := hid hs1
  clear H1 H2 c0 c1 c2 c3 c4 c5 hs0 hb0 hn0 k0 hs1
  subst hW0
  go_enter Try.func15, Try.ntmps15
  go_wp2_with fail
  go_region_held3 (fun w' => w'.cell? ⟨b, 2, none⟩ = some (.string a1) ∧ w'.cell? ⟨b, 3, none⟩ = some (.slice p1 n1 m1) ∧ w'.cell? ⟨b, 4, none⟩ = some (.string a2) ∧ w'.cell? ⟨b, 5, none⟩ = some (.slice p2 n2 m2) ∧ w'.cell? ⟨w.heap.size, 0, none⟩ = some (.string ByteArray.empty) ∧ w'.cell? ⟨w.heap.size, 1, none⟩ = some (.slice (some ⟨b, 0, none⟩) 3 cap) ∧ Below (w.alloc (.cells #[.string ByteArray.empty, .slice (some ⟨b, 0, none⟩) 3 cap] 27)).heap.size (w.alloc (.cells #[.string ByteArray.empty, .slice (some ⟨b, 0, none⟩) 3 cap] 27)) w')
    (first | exact ⟨d01, d02, d03, d04, d11, d12, (Below.refl _ _).drew⟩ | exact ⟨e31.1.1, e31.1.2.1, e31.1.2.2.1, e31.1.2.2.2, e32.1, e32.2, HB3.out⟩ | exact ⟨e21.1.1, e21.1.2.1, e21.1.2.2.1, e21.1.2.2.2, e22.1, e22.2, HB2.out⟩)
    (first
      | (have _ := HB2; go_at_call 15; go_split_ands; refine (HC2.out _ (KC1.out _ (by assumption)).2 (Nat.le_trans HS1.out (Below.size (by assumption)))).mono ?_; rintro e w3 ⟨rfl, hb3⟩; have hb03 := below_nx hb3 (by assumption); have e31 := KC1.out _ hb03; have e32 := KB1.out _ hb03; have HB3 := hid hb03; clear hb3 hb03)
      | (go_at_call 15; go_split_ands; refine (HC1.out _ (KC1.out _ (by assumption)).2 (Nat.le_trans HS1.out (Below.size (by assumption)))).mono ?_; rintro e w2 ⟨rfl, hb2⟩; have hb02 := below_nx hb2 (by assumption); have e21 := KC1.out _ hb02; have e22 := KB1.out _ hb02; have HB2 := hid hb02; clear hb2 hb02))
  go_wp2_with fail
  go_ret
  exact ⟨rfl, HB0.out.trans (HB3.out.mono (by simp))⟩

set_option maxRecDepth 100000 in
set_option maxHeartbeats 2000000 in
theorem l7Default_fn {w : World} {b cap : Nat} {hd a1 a2 : ByteArray} {p0 p1 p2 : Option Addr} {n0 m0 n1 m1 n2 m2 : Nat} {A B : ByteArray} (hcap : 3 ≤ cap ∧ cap ≤ maxLen) (e0 : (hd.toList == [42]) = false)
    (c0 : w.cell? ⟨b, 0, none⟩ = some (.string hd)) (c1 : w.cell? ⟨b, 1, none⟩ = some (.slice p0 n0 m0))
    (c2 : w.cell? ⟨b, 2, none⟩ = some (.string a1)) (c3 : w.cell? ⟨b, 3, none⟩ = some (.slice p1 n1 m1)) (c4 : w.cell? ⟨b, 4, none⟩ = some (.string a2)) (c5 : w.cell? ⟨b, 5, none⟩ = some (.slice p2 n2 m2))
    (H1 : ∀ W, Kept w W → w.heap.size ≤ W.heap.size → Calls Try.prog 26 #[.agg #[.string a1, .slice p1 n1 m1]] W fun e w' => e = .returned (.string A) ∧ Below W.heap.size W w')
    (H2 : ∀ W, Kept w W → w.heap.size ≤ W.heap.size → Calls Try.prog 15 #[.agg #[.string a2, .slice p2 n2 m2]] W fun e w' => e = .returned (.string B) ∧ Below W.heap.size W w')
    (hA : A.size ≤ 24000) (hB : B.size ≤ 24000) :
    Calls Try.prog 15 #[.agg #[.string ByteArray.empty, .slice (some ⟨b, 0, none⟩) 3 cap]] w fun e w' => e = .returned (.string (((({ data := #[40, 108, 97, 109, 32, 120, 32] } : ByteArray) ++ A) ++ ({ data := #[32] } : ByteArray)) ++ B ++ ({ data := #[41] } : ByteArray))) ∧ Below w.heap.size w w' := by
  have hmc : cap ≤ 9223372036854775807 := by have := hcap.2; unfold maxLen at this; omega
  have s1 : ¬ 9223372036854775807 < 7 + A.size := by omega
  have s2 : ¬ 9223372036854775807 < 7 + A.size + 1 := by omega
  have s3 : ¬ 9223372036854775807 < 7 + A.size + 1 + B.size := by omega
  have s4 : ¬ 9223372036854775807 < 7 + A.size + 1 + B.size + 1 := by omega
  have HC1 := hid H1
  have HC2 := hid H2
  have KC := hid (fun W (h : Kept w W) => (show W.cell? ⟨b, 0, none⟩ = some (.string hd) ∧ W.cell? ⟨b, 1, none⟩ = some (.slice p0 n0 m0) ∧ W.cell? ⟨b, 2, none⟩ = some (.string a1) ∧ W.cell? ⟨b, 3, none⟩ = some (.slice p1 n1 m1) ∧ W.cell? ⟨b, 4, none⟩ = some (.string a2) ∧ W.cell? ⟨b, 5, none⟩ = some (.slice p2 n2 m2) from ⟨h.cell c0, h.cell c1, h.cell c2, h.cell c3, h.cell c4, h.cell c5⟩))
  obtain ⟨W0, hW0⟩ : ∃ W0, W0 = w.alloc (.cells #[.string ByteArray.empty, .slice (some ⟨b, 0, none⟩) 3 cap] 27) := ⟨_, rfl⟩
  have hs0 : W0.heap.size = w.heap.size + 1 := by rw [hW0]; simp
  have hb0 : Below w.heap.size w W0 := by rw [hW0]; exact (Below.refl _ _).alloc (Nat.le_refl _) _
  have k0 : Kept w W0 := Kept.of_below hb0 (Nat.le_refl _)
  have hn0 := heap_new w (.cells #[.string ByteArray.empty, .slice (some ⟨b, 0, none⟩) 3 cap] 27) w.heap.size rfl
  rw [← hW0] at hn0
  have KB := hid (fun W (h : Below W0.heap.size W0 W) => (show W.cell? ⟨w.heap.size, 0, none⟩ = some (.string ByteArray.empty) ∧ W.cell? ⟨w.heap.size, 1, none⟩ = some (.slice (some ⟨b, 0, none⟩) 3 cap) from by
    have e := cells_of_pair (block_below hn0 h (by omega))
    exact ⟨e.1, e.2.1⟩))
  have HB0 := hid hb0
  have K0 := hid k0
  obtain ⟨d00, d000, d01, d02, d03, d04⟩ := KC.out W0 k0
  obtain ⟨d11, d12⟩ := KB.out W0 (Below.refl _ _)
  have hs1 : w.heap.size ≤ W0.heap.size := by omega
  have KC1 := hid (fun W (h : Below W0.heap.size W0 W) => (show (W.cell? ⟨b, 2, none⟩ = some (.string a1) ∧ W.cell? ⟨b, 3, none⟩ = some (.slice p1 n1 m1) ∧ W.cell? ⟨b, 4, none⟩ = some (.string a2) ∧ W.cell? ⟨b, 5, none⟩ = some (.slice p2 n2 m2)) ∧ Kept w W from ⟨(KC.out W (k0.below h hs1)).2.2, k0.below h hs1⟩))
  have KB1 := KB
  have HS1 := hid hs1
  clear H1 H2 c0 c1 c2 c3 c4 c5 hs0 hb0 hn0 k0 hs1
  subst hW0
  go_enter Try.func15, Try.ntmps15
  go_wp2_with fail
  go_region_held3 (fun w' => w'.cell? ⟨b, 2, none⟩ = some (.string a1) ∧ w'.cell? ⟨b, 3, none⟩ = some (.slice p1 n1 m1) ∧ w'.cell? ⟨b, 4, none⟩ = some (.string a2) ∧ w'.cell? ⟨b, 5, none⟩ = some (.slice p2 n2 m2) ∧ w'.cell? ⟨w.heap.size, 0, none⟩ = some (.string ByteArray.empty) ∧ w'.cell? ⟨w.heap.size, 1, none⟩ = some (.slice (some ⟨b, 0, none⟩) 3 cap) ∧ Below (w.alloc (.cells #[.string ByteArray.empty, .slice (some ⟨b, 0, none⟩) 3 cap] 27)).heap.size (w.alloc (.cells #[.string ByteArray.empty, .slice (some ⟨b, 0, none⟩) 3 cap] 27)) w')
    (first | exact ⟨d01, d02, d03, d04, d11, d12, (Below.refl _ _).drew⟩ | exact ⟨e31.1.1, e31.1.2.1, e31.1.2.2.1, e31.1.2.2.2, e32.1, e32.2, HB3.out⟩ | exact ⟨e21.1.1, e21.1.2.1, e21.1.2.2.1, e21.1.2.2.2, e22.1, e22.2, HB2.out⟩)
    (first
      | (have _ := HB2; go_at_call 15; go_split_ands; refine (HC2.out _ (KC1.out _ (by assumption)).2 (Nat.le_trans HS1.out (Below.size (by assumption)))).mono ?_; rintro e w3 ⟨rfl, hb3⟩; have hb03 := below_nx hb3 (by assumption); have e31 := KC1.out _ hb03; have e32 := KB1.out _ hb03; have HB3 := hid hb03; clear hb3 hb03)
      | (go_at_call 26; go_split_ands; refine (HC1.out _ (KC1.out _ (by assumption)).2 (Nat.le_trans HS1.out (Below.size (by assumption)))).mono ?_; rintro e w2 ⟨rfl, hb2⟩; have hb02 := below_nx hb2 (by assumption); have e21 := KC1.out _ hb02; have e22 := KB1.out _ hb02; have HB2 := hid hb02; clear hb2 hb02))
  go_wp2_with fail
  go_ret
  exact ⟨rfl, HB0.out.trans (HB3.out.mono (by simp))⟩

theorem dfl_pair_txt (a b : STy) : (STy.pair a b).dfl.txt = (((({ data := #[40, 112, 97, 105, 114, 32] } : ByteArray) ++ a.dfl.txt) ++ ({ data := #[32] } : ByteArray)) ++ b.dfl.txt ++ ({ data := #[41] } : ByteArray)) := by
  apply ByteArray.ext; apply Array.toList_inj.1
  simp [STy.dfl, Tree.txt, Tree.write, Tree.writes]
theorem dfl_fn_txt (a b : STy) : (STy.fn a b).dfl.txt = (((({ data := #[40, 108, 97, 109, 32, 120, 32] } : ByteArray) ++ a.tree.txt) ++ ({ data := #[32] } : ByteArray)) ++ b.dfl.txt ++ ({ data := #[41] } : ByteArray)) := by
  apply ByteArray.ext; apply Array.toList_inj.1
  simp [STy.dfl, Tree.txt, Tree.write, Tree.writes]

set_option maxHeartbeats 1000000 in
/-- THE MODEL's SIMPLE EXPRESSION. -/
theorem l7Default_any {w0 : World} {S : Nat → Prop} (s : STy) : ∀ {h : Hd}, TIn w0 S s.tree h → s.n ≤ 200 → ∀ w, Kept w0 w → w0.heap.size ≤ w.heap.size →
    Calls Try.prog 15 #[.agg #[.string h.a, .slice h.p h.l h.c]] w fun e w' => e = .returned (.string s.dfl.txt) ∧ Below w.heap.size w w' := by
  induction s with
  | bit =>
    intro h ht _ w _ _
    cases ht with
    | atom x hne hm =>
      have he := isEmpty_not sBit hne
      have HX := hid (show ({ data := #[48] } : ByteArray) = STy.bit.dfl.txt from rfl)
      go_enter Try.func15, Try.ntmps15
      go_wp2
      go_ret
      exact ⟨ret_str HX.out, (Below.refl _ _).alloc (by simp) _⟩
  | fn a b iha ihb =>
    intro h ht hn w hk hw
    obtain ⟨g, cap, A, rfl, hcap, hA, hB, h0, h1, h2⟩ := tin3 ht
    simp only [STy.n] at hn
    have c0 := hk.cell (hA 0 (by omega)); have c1 := hk.cell (hB 0 (by omega)); have c2 := hk.cell (hA 1 (by omega)); have c3 := hk.cell (hB 1 (by omega)); have c4 := hk.cell (hA 2 (by omega)); have c5 := hk.cell (hB 2 (by omega))
    have l1 := tree_len a; have l2 := dfl_len b; have l3 := tree_wt a
    rw [dfl_fn_txt]
    exact l7Default_fn hcap (by rw [h0.text]; show (sFn.toList == [42]) = false; rw [sFn_l]; rfl) c0 c1 c2 c3 c4 c5 (fun W hkW hs => l1Text_big h1 (by omega) (by omega) W (hk.trans hkW hw) (by omega)) (fun W hkW hs => ihb h2 (by omega) W (hk.trans hkW hw) (by omega)) (by rw [txt_size]; omega) (by rw [txt_size]; omega)
  | pair a b iha ihb =>
    intro h ht hn w hk hw
    obtain ⟨g, cap, A, rfl, hcap, hA, hB, h0, h1, h2⟩ := tin3 ht
    simp only [STy.n] at hn
    have c0 := hk.cell (hA 0 (by omega)); have c1 := hk.cell (hB 0 (by omega)); have c2 := hk.cell (hA 1 (by omega)); have c3 := hk.cell (hB 1 (by omega)); have c4 := hk.cell (hA 2 (by omega)); have c5 := hk.cell (hB 2 (by omega))
    have l1 := dfl_len a; have l2 := dfl_len b
    rw [dfl_pair_txt]
    exact l7Default_pair hcap (by rw [h0.text]; show (sPr.toList == [42]) = true; rw [sPr_l]; rfl) c0 c1 c2 c3 c4 c5 (fun W hkW hs => iha h1 (by omega) W (hk.trans hkW hw) (by omega)) (fun W hkW hs => ihb h2 (by omega) W (hk.trans hkW hw) (by omega)) (by rw [txt_size]; omega) (by rw [txt_size]; omega)
end Go.Proofs.Ytinlibkkbjfmeaa
