/- The model's source types: l7Source. -/
import Derived.Test.YtlggbhakkhecmaaSrcP
import Derived.Test.YtlggbhakkhecmaaSpecC
namespace Go.Proofs.Ytlggbhakkhecmaa
open Go.RowKit

theorem sty_atom_b (s : ByteArray) : (Tree.atom s).sty.isSome = (s.toList == [98]) := by
  rw [Tree.sty]
  by_cases h : s.toList = [98]
  · rw [if_pos h]; simp [h]
  · rw [if_neg h]; simp [h]
set_option maxRecDepth 100000 in
set_option maxHeartbeats 2000000 in
theorem l7Source_any {w0 : World} {S : Nat → Prop} {t : Tree} {h : Hd} (ht : TIn w0 S t h) : ∀ w, Kept w0 w → w0.heap.size ≤ w.heap.size →
    Calls Try.prog 34 #[.agg #[.string h.a, .slice h.p h.l h.c]] w fun e w' => e = .returned (.bool t.sty.isSome) ∧ Below w.heap.size w w' := by
  induction ht with
  | atom s hne hm =>
    intro w _ _
    have he := isEmpty_not s hne
    have HE := hid (sty_atom_b s)
    go_enter Try.func34, Try.ntmps34
    go_wp2
    go_ret
    exact ⟨ret_bool HE.out.symm, (Below.refl _ _).alloc (by simp) _⟩
  | node ps b cap A hp hl hc hS hA hB hps ih =>
    intro w hk hw
    have HT := hid (fun W hk => l1Head_any (TIn.node ps b cap A hp hl hc hS hA hB hps) W hk)
    have hmc : ps.length ≤ 9223372036854775807 := by unfold maxLen at hc; omega
    have hin : 1 ≤ ps.length := hp
    by_cases h3 : ps.length = 3
    · obtain ⟨q, x, y, rfl⟩ : ∃ q x y, ps = [q, x, y] := by
        match ps, h3 with
        | [q, x, y], _ => exact ⟨q, x, y, rfl⟩
      have hx := ih 1 x rfl
      have hy := ih 2 y rfl
      have HX := hid hx
      have HY := hid hy
      have HBOX := hid (fun W hb => box3 (x := .string ByteArray.empty) (y := .slice (some ⟨b, 0, none⟩) 3 cap) (T := 38) hk hw (fun i hi => hA i hi) (fun i hi => hB i hi) W hb)
      have HK := hid hk
      have hhd : (Tree.node [q, x, y]).headAtom = q.text := rfl
      rw [hhd] at HT
      obtain ⟨hd, hhde⟩ : ∃ hd, hd = q.text := ⟨_, rfl⟩
      rw [← hhde] at HT
      have HHD := hid hhde
      clear hx hy ih hps hA hB hk hhd hhde hin hmc h3 hp hl
      have W1 : ∀ Wx, Below (w.alloc (.cells #[.string ByteArray.empty, .slice (some ⟨b, 0, none⟩) 3 cap] 38)).heap.size (w.alloc (.cells #[.string ByteArray.empty, .slice (some ⟨b, 0, none⟩) 3 cap] 38)) Wx → Below (w.heap.size + 1) (w.alloc (.cells #[.string ByteArray.empty, .slice (some ⟨b, 0, none⟩) 3 cap] 38)) Wx := fun Wx h => by simpa using h
      have W1 := hid W1
      have hk1 := hid (fun o => hk_alloc (HK.out) hw o)
      obtain ⟨bx, hbx⟩ : ∃ bx, bx = x.sty.isSome := ⟨_, rfl⟩
      obtain ⟨bY, hby⟩ : ∃ bY, bY = y.sty.isSome := ⟨_, rfl⟩
      rw [← hbx] at HX
      rw [← hby] at HY
      have HXE := hid hbx
      have HYE := hid hby
      clear hbx hby
      have HR1 := hid (fun (e : bx = false) => (show (Tree.node [q, x, y]).sty.isSome = false by
        rw [HXE.out] at e; rw [sty_bad1 (by simpa using e)]; rfl))
      have HR2 := hid (fun (e : bx = true) (e2 : hd.toList = [62] ∨ hd.toList = [42]) => (show (Tree.node [q, x, y]).sty.isSome = bY by
        rw [HXE.out] at e
        obtain ⟨a, ha⟩ := Option.isSome_iff_exists.1 e
        rw [HYE.out]
        cases hy2 : y.sty with
        | none => rw [sty_bad2 hy2]
        | some c =>
          rw [sty_three ha hy2, ← HHD.out]
          rcases e2 with e2 | e2
          · rw [if_pos e2]; rfl
          · rw [if_neg (by rw [e2]; decide), if_pos e2]; rfl))
      cases e0 : hd.toList == [62] with
      | true =>
        have E0 := hid (show hd.toList = [62] by simpa using e0)
        cases bx with
        | false =>
          go_enter Try.func34, Try.ntmps34
          go_wp2_with (first | (have _ := HC1; go_at_call 34; refine (HX.out _ HC1.out (by omega)).mono ?_; rintro e w2 ⟨rfl, hb2⟩) | (go_at_call 45; refine (HT.out _ (hk1.out _)).mono ?_; rintro e w1 ⟨rfl, hb1⟩; have hc1 := HBOX.out w1 (W1.out w1 hb1); obtain ⟨⟨c1, c2⟩, ⟨c3, c4, c5, c6, c7, c8⟩, c9, c10, c11⟩ := hc1; have HC1 := hid c9; have HB1 := hid c11; clear c9 c11 hb1))
          go_ret
          exact ⟨ret_bool (HR1.out (by simp)).symm, HB1.out.trans (hb2.mono (by omega))⟩
        | true =>
          go_enter Try.func34, Try.ntmps34
          go_wp2_with (first | (have _ := HB2; go_at_call 34; refine (HY.out _ HC2.out (by omega)).mono ?_; rintro e w3 ⟨rfl, hb3⟩) | (have _ := HC1; go_at_call 34; refine (HX.out _ HC1.out (by omega)).mono ?_; rintro e w2 ⟨rfl, hb2⟩; have s2 := hb2.size; have HC2 := hid (HC1.out.below hb2 (by omega)); have hc2 := HBOX.out w2 (HW1.out.trans (hb2.mono (by omega))); obtain ⟨⟨d1, d2⟩, ⟨d3, d4, d5, d6, d7, d8⟩, d9, d10, d11⟩ := hc2; have HB2 := hid d11; clear d9 d11 hb2) | (go_at_call 45; refine (HT.out _ (hk1.out _)).mono ?_; rintro e w1 ⟨rfl, hb1⟩; have HW1 := hid (W1.out w1 hb1); have hc1 := HBOX.out w1 (HW1.out); obtain ⟨⟨c1, c2⟩, ⟨c3, c4, c5, c6, c7, c8⟩, c9, c10, c11⟩ := hc1; have HC1 := hid c9; have HB1 := hid c11; clear c9 c11 hb1))
          go_ret
          exact ⟨ret_bool (HR2.out (by simp) (Or.inl E0.out)).symm, HB2.out.trans (hb3.mono (by omega))⟩
      | false =>
        cases e1 : hd.toList == [42] with
        | true =>
          have E0 := hid (show hd.toList = [42] by simpa using e1)
          cases bx with
          | false =>
            go_enter Try.func34, Try.ntmps34
            go_wp2_with (first | (have _ := HC1; go_at_call 34; refine (HX.out _ HC1.out (by omega)).mono ?_; rintro e w2 ⟨rfl, hb2⟩) | (go_at_call 45; refine (HT.out _ (hk1.out _)).mono ?_; rintro e w1 ⟨rfl, hb1⟩; have hc1 := HBOX.out w1 (W1.out w1 hb1); obtain ⟨⟨c1, c2⟩, ⟨c3, c4, c5, c6, c7, c8⟩, c9, c10, c11⟩ := hc1; have HC1 := hid c9; have HB1 := hid c11; clear c9 c11 hb1))
            go_ret
            exact ⟨ret_bool (HR1.out (by simp)).symm, HB1.out.trans (hb2.mono (by omega))⟩
          | true =>
            go_enter Try.func34, Try.ntmps34
            go_wp2_with (first | (have _ := HB2; go_at_call 34; refine (HY.out _ HC2.out (by omega)).mono ?_; rintro e w3 ⟨rfl, hb3⟩) | (have _ := HC1; go_at_call 34; refine (HX.out _ HC1.out (by omega)).mono ?_; rintro e w2 ⟨rfl, hb2⟩; have s2 := hb2.size; have HC2 := hid (HC1.out.below hb2 (by omega)); have hc2 := HBOX.out w2 (HW1.out.trans (hb2.mono (by omega))); obtain ⟨⟨d1, d2⟩, ⟨d3, d4, d5, d6, d7, d8⟩, d9, d10, d11⟩ := hc2; have HB2 := hid d11; clear d9 d11 hb2) | (go_at_call 45; refine (HT.out _ (hk1.out _)).mono ?_; rintro e w1 ⟨rfl, hb1⟩; have HW1 := hid (W1.out w1 hb1); have hc1 := HBOX.out w1 (HW1.out); obtain ⟨⟨c1, c2⟩, ⟨c3, c4, c5, c6, c7, c8⟩, c9, c10, c11⟩ := hc1; have HC1 := hid c9; have HB1 := hid c11; clear c9 c11 hb1))
            go_ret
            exact ⟨ret_bool (HR2.out (by simp) (Or.inr E0.out)).symm, HB2.out.trans (hb3.mono (by omega))⟩
        | false =>
          have HR := hid (show (Tree.node [q, x, y]).sty.isSome = false by
            rw [sty_bad0 (by rw [← HHD.out]; simpa using e0) (by rw [← HHD.out]; simpa using e1)]; rfl)
          go_enter Try.func34, Try.ntmps34
          go_wp2_with ((go_at_call 45; refine (HT.out _ (hk1.out _)).mono ?_; rintro e w1 ⟨rfl, hb1⟩; have hc1 := HBOX.out w1 (W1.out w1 hb1); obtain ⟨⟨c1, c2⟩, ⟨c3, c4, c5, c6, c7, c8⟩, c9, c10, c11⟩ := hc1; have HC1 := hid c9; have HB1 := hid c11; clear c9 c11 hb1))
          go_ret
          exact ⟨ret_bool HR.out.symm, HB1.out⟩
    · have HR := hid (show (Tree.node ps).sty.isSome = false by rw [sty_not3 h3]; rfl)
      obtain ⟨n, hn⟩ : ∃ n, n = ps.length := ⟨_, rfl⟩
      rw [← hn] at hin h3 hmc ⊢
      have h4 : ((n : Int) == 3) = false := by simp; omega
      have HB1 := hid (fun W hb => (cells_of_pair (block_below (heap_new w (.cells #[.string ByteArray.empty, .slice (some ⟨b, 0, none⟩) n cap] 38) w.heap.size rfl) (B := w.heap.size + 1) (w' := W) hb (by omega))))
      have HK := hid (fun o => hk_alloc hk hw o)
      obtain ⟨hd, hhde⟩ : ∃ hd, hd = (Tree.node ps).headAtom := ⟨_, rfl⟩
      rw [← hhde, ← hn] at HT
      clear hhde ih hps hA hB hk hp hl h3
      have W1 : ∀ Wx, Below (w.alloc (.cells #[.string ByteArray.empty, .slice (some ⟨b, 0, none⟩) n cap] 38)).heap.size (w.alloc (.cells #[.string ByteArray.empty, .slice (some ⟨b, 0, none⟩) n cap] 38)) Wx → Below (w.heap.size + 1) (w.alloc (.cells #[.string ByteArray.empty, .slice (some ⟨b, 0, none⟩) n cap] 38)) Wx := fun Wx h => by simpa using h
      have W1 := hid W1
      clear hn
      cases e0 : hd.toList == [62] with
      | true =>
        go_enter Try.func34, Try.ntmps34
        go_wp2_with (go_at_call 45; refine (HT.out _ (HK.out _)).mono ?_; rintro e w1 ⟨rfl, hb1⟩; have hc1 := HB1.out w1 (W1.out w1 hb1); obtain ⟨c1, c2, -, -⟩ := hc1)
        go_ret
        exact ⟨ret_bool HR.out.symm, ((Below.refl _ _).alloc (Nat.le_refl _) _).trans (hb1.mono (by simp))⟩
      | false =>
        cases e1 : hd.toList == [42] with
        | true =>
          go_enter Try.func34, Try.ntmps34
          go_wp2_with (go_at_call 45; refine (HT.out _ (HK.out _)).mono ?_; rintro e w1 ⟨rfl, hb1⟩; have hc1 := HB1.out w1 (W1.out w1 hb1); obtain ⟨c1, c2, -, -⟩ := hc1)
          go_ret
          exact ⟨ret_bool HR.out.symm, ((Below.refl _ _).alloc (Nat.le_refl _) _).trans (hb1.mono (by simp))⟩
        | false =>
          go_enter Try.func34, Try.ntmps34
          go_wp2_with (go_at_call 45; refine (HT.out _ (HK.out _)).mono ?_; rintro e w1 ⟨rfl, hb1⟩; have hc1 := HB1.out w1 (W1.out w1 hb1); obtain ⟨c1, c2, -, -⟩ := hc1)
          go_ret
          exact ⟨ret_bool HR.out.symm, ((Below.refl _ _).alloc (Nat.le_refl _) _).trans (hb1.mono (by simp))⟩
end Go.Proofs.Ytlggbhakkhecmaa
