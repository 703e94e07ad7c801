/- The model's name translation of a source type. -/
import Derived.Test.YtlggbhakkhecmaaSrcT
import Derived.Test.YtlggbhakkhecmaaTin3
import Derived.Test.YtlggbhakkhecmaaNtP
namespace Go.Proofs.Ytlggbhakkhecmaa
open Go.RowKit

set_option maxRecDepth 100000 in
set_option maxHeartbeats 2000000 in
theorem l8ByName_pair {w0 w : World} {b cap : Nat} {A : Nat → Hd} {X Y : ByteArray} (hcap : 3 ≤ cap ∧ cap ≤ maxLen) (hk : Kept w0 w) (hw : w0.heap.size ≤ w.heap.size) (e0 : ((A 0).a.toList == [42]) = true)
    (hA : ∀ i, i < 3 → w0.cell? ⟨b, i * 2, none⟩ = some (.string (A i).a)) (hB : ∀ i, i < 3 → w0.cell? ⟨b, i * 2 + 1, none⟩ = some (.slice (A i).p (A i).l (A i).c))
    (H1 : ∀ W, Kept w0 W → w0.heap.size ≤ W.heap.size → Calls Try.prog 26 #[.agg #[.string (A 1).a, .slice (A 1).p (A 1).l (A 1).c]] W fun e w' => e = .returned (.string X) ∧ Below W.heap.size W w')
    (H2 : ∀ W, Kept w0 W → w0.heap.size ≤ W.heap.size → Calls Try.prog 26 #[.agg #[.string (A 2).a, .slice (A 2).p (A 2).l (A 2).c]] W fun e w' => e = .returned (.string Y) ∧ Below W.heap.size W w')
    (hX : X.size ≤ 8000) (hY : Y.size ≤ 8000) :
    Calls Try.prog 26 #[.agg #[.string ByteArray.empty, .slice (some ⟨b, 0, none⟩) 3 cap]] w fun e w' => e = .returned (.string (((({ data := #[40, 38, 32] } : ByteArray) ++ X) ++ ({ data := #[32] } : ByteArray)) ++ Y ++ ({ data := #[41] } : ByteArray))) ∧ Below w.heap.size w w' := by
  have hmc : cap ≤ 9223372036854775807 := by have := hcap.2; unfold maxLen at this; omega
  have HX := hid H1
  have HY := hid H2
  have HBOX := hid (fun W hb => box3 (x := .string ByteArray.empty) (y := .slice (some ⟨b, 0, none⟩) 3 cap) (T := 38) hk hw hA hB W hb)
  have W1 := hid (show ∀ Wx, Below (w.alloc (.cells #[.string ByteArray.empty, .slice (some ⟨b, 0, none⟩) 3 cap] 38)).heap.size (w.alloc (.cells #[.string ByteArray.empty, .slice (some ⟨b, 0, none⟩) 3 cap] 38)) Wx → Below (w.heap.size + 1) (w.alloc (.cells #[.string ByteArray.empty, .slice (some ⟨b, 0, none⟩) 3 cap] 38)) Wx from fun Wx h => by simpa using h)
  obtain ⟨⟨o1, o2⟩, ⟨o3, o4, o5, o6, o7, o8⟩, o9, o10, o11⟩ := HBOX.out _ (Below.refl _ _)
  have KX := hid o9
  clear o9 o11 hA hB hk H1 H2
  go_enter Try.func26, Try.ntmps26
  go_wp2_with (first | (have _ := HB1; go_at_call 26; refine (HY.out _ HC1.out (by omega)).mono ?_; rintro e w3 ⟨rfl, hb3⟩; obtain ⟨⟨p1, p2⟩, ⟨p3, p4, p5, p6, p7, p8⟩, p9, p10, p11⟩ := HBOX.out w3 (HW2.out.trans (hb3.mono (by omega))); have HB3 := hid p11; clear p9 p11 hb3) | (go_at_call 26; refine (HX.out _ KX.out (by simp; omega)).mono ?_; rintro e w2 ⟨rfl, hb2⟩; have hw2 := W1.out w2 hb2; obtain ⟨⟨c1, c2⟩, ⟨c3, c4, c5, c6, c7, c8⟩, c9, c10, c11⟩ := HBOX.out w2 hw2; have HC1 := hid c9; have HB1 := hid c11; have HW2 := hid hw2; clear c9 c11 hw2 hb2))
  go_ret
  exact ⟨rfl, HB3.out⟩

set_option maxRecDepth 100000 in
set_option maxHeartbeats 2000000 in
theorem l8ByName_fn {w0 w : World} {b cap : Nat} {A : Nat → Hd} {X Y : ByteArray} (hcap : 3 ≤ cap ∧ cap ≤ maxLen) (hk : Kept w0 w) (hw : w0.heap.size ≤ w.heap.size) (e0 : ((A 0).a.toList == [42]) = false)
    (hA : ∀ i, i < 3 → w0.cell? ⟨b, i * 2, none⟩ = some (.string (A i).a)) (hB : ∀ i, i < 3 → w0.cell? ⟨b, i * 2 + 1, none⟩ = some (.slice (A i).p (A i).l (A i).c))
    (H1 : ∀ W, Kept w0 W → w0.heap.size ≤ W.heap.size → Calls Try.prog 26 #[.agg #[.string (A 1).a, .slice (A 1).p (A 1).l (A 1).c]] W fun e w' => e = .returned (.string X) ∧ Below W.heap.size W w')
    (H2 : ∀ W, Kept w0 W → w0.heap.size ≤ W.heap.size → Calls Try.prog 26 #[.agg #[.string (A 2).a, .slice (A 2).p (A 2).l (A 2).c]] W fun e w' => e = .returned (.string Y) ∧ Below W.heap.size W w')
    (hX : X.size ≤ 8000) (hY : Y.size ≤ 8000) :
    Calls Try.prog 26 #[.agg #[.string ByteArray.empty, .slice (some ⟨b, 0, none⟩) 3 cap]] w fun e w' => e = .returned (.string (((({ data := #[40, 62, 32, 40, 117, 32] } : ByteArray) ++ X) ++ ({ data := #[41, 32] } : ByteArray)) ++ Y ++ ({ data := #[41] } : ByteArray))) ∧ Below w.heap.size w w' := by
  have hmc : cap ≤ 9223372036854775807 := by have := hcap.2; unfold maxLen at this; omega
  have HX := hid H1
  have HY := hid H2
  have HBOX := hid (fun W hb => box3 (x := .string ByteArray.empty) (y := .slice (some ⟨b, 0, none⟩) 3 cap) (T := 38) hk hw hA hB W hb)
  have W1 := hid (show ∀ Wx, Below (w.alloc (.cells #[.string ByteArray.empty, .slice (some ⟨b, 0, none⟩) 3 cap] 38)).heap.size (w.alloc (.cells #[.string ByteArray.empty, .slice (some ⟨b, 0, none⟩) 3 cap] 38)) Wx → Below (w.heap.size + 1) (w.alloc (.cells #[.string ByteArray.empty, .slice (some ⟨b, 0, none⟩) 3 cap] 38)) Wx from fun Wx h => by simpa using h)
  obtain ⟨⟨o1, o2⟩, ⟨o3, o4, o5, o6, o7, o8⟩, o9, o10, o11⟩ := HBOX.out _ (Below.refl _ _)
  have KX := hid o9
  clear o9 o11 hA hB hk H1 H2
  go_enter Try.func26, Try.ntmps26
  go_wp2_with (first | (have _ := HB1; go_at_call 26; refine (HY.out _ HC1.out (by omega)).mono ?_; rintro e w3 ⟨rfl, hb3⟩; obtain ⟨⟨p1, p2⟩, ⟨p3, p4, p5, p6, p7, p8⟩, p9, p10, p11⟩ := HBOX.out w3 (HW2.out.trans (hb3.mono (by omega))); have HB3 := hid p11; clear p9 p11 hb3) | (go_at_call 26; refine (HX.out _ KX.out (by simp; omega)).mono ?_; rintro e w2 ⟨rfl, hb2⟩; have hw2 := W1.out w2 hb2; obtain ⟨⟨c1, c2⟩, ⟨c3, c4, c5, c6, c7, c8⟩, c9, c10, c11⟩ := HBOX.out w2 hw2; have HC1 := hid c9; have HB1 := hid c11; have HW2 := hid hw2; clear c9 c11 hw2 hb2))
  go_ret
  exact ⟨rfl, HB3.out⟩

theorem byn_pair_txt (a b : STy) : (STy.pair a b).byn.txt = (((({ data := #[40, 38, 32] } : ByteArray) ++ a.byn.txt) ++ ({ data := #[32] } : ByteArray)) ++ b.byn.txt ++ ({ data := #[41] } : ByteArray)) := by
  apply ByteArray.ext; apply Array.toList_inj.1
  simp [STy.byn, Tree.txt, Tree.write, Tree.writes]
theorem byn_fn_txt (a b : STy) : (STy.fn a b).byn.txt = (((({ data := #[40, 62, 32, 40, 117, 32] } : ByteArray) ++ a.byn.txt) ++ ({ data := #[41, 32] } : ByteArray)) ++ b.byn.txt ++ ({ data := #[41] } : ByteArray)) := by
  apply ByteArray.ext; apply Array.toList_inj.1
  simp [STy.byn, Tree.txt, Tree.write, Tree.writes]

set_option maxHeartbeats 1000000 in
/-- THE MODEL's NAME TRANSLATION OF A SOURCE TYPE. -/
theorem l8ByName_any {w0 : World} {S : Nat → Prop} (s : STy) : ∀ {h : Hd}, TIn w0 S s.tree h → s.n ≤ 200 → ∀ w, Kept w0 w → w0.heap.size ≤ w.heap.size →
    Calls Try.prog 26 #[.agg #[.string h.a, .slice h.p h.l h.c]] w fun e w' => e = .returned (.string s.byn.txt) ∧ Below w.heap.size w w' := by
  induction s with
  | bit =>
    intro h ht _ w _ _
    cases ht with
    | atom x hne hm =>
      have he := isEmpty_not sBit hne
      have HX := hid (show ({ data := #[40, 102, 32, 98, 41] } : ByteArray) = STy.bit.byn.txt from rfl)
      go_enter Try.func26, Try.ntmps26
      go_wp2
      go_ret
      exact ⟨ret_str HX.out, (Below.refl _ _).alloc (by simp) _⟩
  | fn a b iha ihb =>
    intro h ht hn w hk hw
    obtain ⟨g, cap, A, rfl, hcap, hA, hB, h0, h1, h2⟩ := tin3 ht
    simp only [STy.n] at hn
    have l1 := byn_len a; have l2 := byn_len b
    rw [byn_fn_txt]
    exact l8ByName_fn hcap hk hw (by rw [h0.text]; show (sFn.toList == [42]) = false; rw [sFn_l]; rfl) hA hB (iha h1 (by omega)) (ihb h2 (by omega)) (by rw [txt_size]; omega) (by rw [txt_size]; omega)
  | pair a b iha ihb =>
    intro h ht hn w hk hw
    obtain ⟨g, cap, A, rfl, hcap, hA, hB, h0, h1, h2⟩ := tin3 ht
    simp only [STy.n] at hn
    have l1 := byn_len a; have l2 := byn_len b
    rw [byn_pair_txt]
    exact l8ByName_pair hcap hk hw (by rw [h0.text]; show (sPr.toList == [42]) = true; rw [sPr_l]; rfl) hA hB (iha h1 (by omega)) (ihb h2 (by omega)) (by rw [txt_size]; omega) (by rw [txt_size]; omega)
end Go.Proofs.Ytlggbhakkhecmaa
