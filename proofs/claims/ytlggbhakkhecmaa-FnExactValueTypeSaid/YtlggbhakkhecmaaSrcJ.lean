/- The program reads a source type: sourceTypeOf. -/
import Derived.Test.YtlggbhakkhecmaaSrcI
namespace Go.Proofs.Ytlggbhakkhecmaa
open Go.RowKit

set_option maxRecDepth 100000 in
set_option maxHeartbeats 4000000 in
theorem sourceTypeOf_any {w0 : World} {S : Nat → Prop} {t : Tree} {h : Hd} (ht : TIn w0 S t h) : ∀ w, Kept w0 w → w0.heap.size ≤ w.heap.size →
    Calls Try.prog 42 #[.agg #[.string h.a, .slice h.p h.l h.c]] w (SPost t.sty w) := by
  induction ht with
  | atom s hne hm =>
    intro w _ _
    by_cases hb : s.toList = [98]
    · have h1 : (s.toList == [98]) = true := by simp [hb]
      have HR := hid (show (Tree.atom s).sty = some .bit by rw [Tree.sty, if_pos hb])
      clear hb
      go_enter Try.func42, Try.ntmps42
      go_wp2
      go_ret2
      rw [HR.out]
      exact sPost_some (((Below.refl _ _).alloc (Nat.le_refl _) _).alloc (by simp) _) (.bit ({ data := #[98] } : ByteArray) (by rw [Go.ByteArray.toList_eq]) (w.heap.size + 1) (Nat.le_succ _) (heap_new _ _ _ (by simp)))
    · have h1 : (s.toList == [98]) = false := by simpa using hb
      have HR := hid (show (Tree.atom s).sty = none by rw [Tree.sty, if_neg hb])
      clear hb
      go_enter Try.func42, Try.ntmps42
      go_wp2
      go_ret2
      rw [HR.out]
      exact sPost_none ((Below.refl _ _).alloc (Nat.le_refl _) _)
  | node ps b cap A hp hl hc hS hA hB hps ih =>
    intro w hk hw
    have he : (ByteArray.empty.toList == [98]) = false := by rw [empty_toList]; rfl
    have hmc : ps.length ≤ 9223372036854775807 := by unfold maxLen at hc; omega
    by_cases h3 : ps.length = 3
    · obtain ⟨q, x, y, rfl⟩ : ∃ q x y, ps = [q, x, y] := by
        match ps, h3 with
        | [q, x, y], _ => exact ⟨q, x, y, rfl⟩
      have HX := hid (ih 1 x rfl)
      have HY := hid (ih 2 y rfl)
      have HBOX := hid (fun W hb => box3 (x := .string ByteArray.empty) (y := .slice (some ⟨b, 0, none⟩) 3 cap) (T := 55) hk hw (fun i hi => hA i hi) (fun i hi => hB i hi) W hb)
      have HQ := hid (hps 0 q rfl).text
      have W1 := hid (show ∀ Wx, Below (w.alloc (.cells #[.string ByteArray.empty, .slice (some ⟨b, 0, none⟩) 3 cap] 55)).heap.size (w.alloc (.cells #[.string ByteArray.empty, .slice (some ⟨b, 0, none⟩) 3 cap] 55)) Wx → Below (w.heap.size + 1) (w.alloc (.cells #[.string ByteArray.empty, .slice (some ⟨b, 0, none⟩) 3 cap] 55)) Wx from fun Wx h => by simpa using h)
      obtain ⟨⟨o1, o2⟩, ⟨o3, o4, o5, o6, o7, o8⟩, o9, o10, o11⟩ := HBOX.out _ (Below.refl _ _)
      have KX := hid o9
      obtain ⟨hd, hde⟩ : ∃ hd, hd = (A 0).a := ⟨_, rfl⟩
      have HDE := hid hde
      rw [← hde] at HBOX o3
      clear o9 o11 hps hA hB hk h3 hp hl ih hmc hde
      cases hsx : x.sty with
      | none =>
        have HR := hid (show (Tree.node [q, x, y]).sty = none from sty_bad1 hsx)
        have HSX := hid hsx
        cases hsy : y.sty with
        | none =>
          have HSY := hid hsy
          clear hsx hsy
          go_enter Try.func42, Try.ntmps42
          go_wp2_with (first | (have _ := HB1; go_at_call 42; refine (HY.out _ HC1.out (by omega)).mono ?_; rintro e w3 hp; rw [HSY.out] at hp; obtain ⟨rfl, hb3⟩ := hp.none; clear hp) | (go_at_call 42; refine (HX.out _ KX.out (by simp; omega)).mono ?_; rintro e w2 hp; rw [HSX.out] at hp; obtain ⟨rfl, hb2⟩ := hp.none; clear hp; have hw2 := W1.out w2 hb2; obtain ⟨⟨c1, c2⟩, ⟨c3, c4, c5, c6, c7, c8⟩, c9, c10, c11⟩ := HBOX.out w2 hw2; have HC1 := hid c9; have HB1 := hid c11; have HB2 := hid hb2; clear c9 c11 hw2 hb2))
          go_ret2
          rw [HR.out]
          exact sPost_none (HB1.out.trans (hb3.mono (by omega)))
        | some a =>
          have HSY := hid hsy
          clear hsx hsy
          go_enter Try.func42, Try.ntmps42
          go_wp2_with (first | (have _ := HB1; go_at_call 42; refine (HY.out _ HC1.out (by omega)).mono ?_; rintro e w3 hp; rw [HSY.out] at hp; obtain ⟨a2, rfl, hb3, hn2⟩ := hp.some; clear hp) | (go_at_call 42; refine (HX.out _ KX.out (by simp; omega)).mono ?_; rintro e w2 hp; rw [HSX.out] at hp; obtain ⟨rfl, hb2⟩ := hp.none; clear hp; have hw2 := W1.out w2 hb2; obtain ⟨⟨c1, c2⟩, ⟨c3, c4, c5, c6, c7, c8⟩, c9, c10, c11⟩ := HBOX.out w2 hw2; have HC1 := hid c9; have HB1 := hid c11; have HB2 := hid hb2; clear c9 c11 hw2 hb2))
          go_ret2
          rw [HR.out]
          exact sPost_none (HB1.out.trans (hb3.mono (by omega)))
      | some a =>
        have HSX := hid hsx
        cases hsy : y.sty with
        | none =>
          have HR := hid (show (Tree.node [q, x, y]).sty = none from sty_bad2 hsy)
          have HSY := hid hsy
          clear hsx hsy
          go_enter Try.func42, Try.ntmps42
          go_wp2_with (first | (have _ := HB1; go_at_call 42; refine (HY.out _ HC1.out (by omega)).mono ?_; rintro e w3 hp; rw [HSY.out] at hp; obtain ⟨rfl, hb3⟩ := hp.none; clear hp) | (go_at_call 42; refine (HX.out _ KX.out (by simp; omega)).mono ?_; rintro e w2 hp; rw [HSX.out] at hp; obtain ⟨a1, rfl, hb2, hn1⟩ := hp.some; clear hp; have hw2 := W1.out w2 hb2; obtain ⟨⟨c1, c2⟩, ⟨c3, c4, c5, c6, c7, c8⟩, c9, c10, c11⟩ := HBOX.out w2 hw2; have HC1 := hid c9; have HB1 := hid c11; have HB2 := hid hb2; clear c9 c11 hw2 hb2; have HN1 := hid hn1; clear hn1))
          go_ret2
          rw [HR.out]
          exact sPost_none (HB1.out.trans (hb3.mono (by omega)))
        | some c =>
          have HSY := hid hsy
          have HR := hid (sty_three (h := q) hsx hsy)
          have HQE := hid (show hd = q.text by rw [HDE.out, HQ.out])
          clear hsx hsy
          cases e0 : hd.toList == [62] with
          | true =>
            have HR2 := hid (show (Tree.node [q, x, y]).sty = some (.fn a c) by rw [HR.out, ← HQE.out, if_pos (by simpa using e0)])
            have E0 := hid (show hd.toList = [62] by simpa using e0)
            go_enter Try.func42, Try.ntmps42
            go_wp2_with (first | (have _ := HB1; go_at_call 42; refine (HY.out _ HC1.out (by omega)).mono ?_; rintro e w3 hp; rw [HSY.out] at hp; obtain ⟨a2, rfl, hb3, hn2⟩ := hp.some; clear hp) | (go_at_call 42; refine (HX.out _ KX.out (by simp; omega)).mono ?_; rintro e w2 hp; rw [HSX.out] at hp; obtain ⟨a1, rfl, hb2, hn1⟩ := hp.some; clear hp; have hw2 := W1.out w2 hb2; obtain ⟨⟨c1, c2⟩, ⟨c3, c4, c5, c6, c7, c8⟩, c9, c10, c11⟩ := HBOX.out w2 hw2; have HC1 := hid c9; have HB1 := hid c11; have HB2 := hid hb2; clear c9 c11 hw2 hb2; have HN1 := hid hn1; clear hn1))
            go_ret2
            rw [HR2.out]
            obtain ⟨r1, r2, r3⟩ := sNode (((Below.refl w.heap.size w).alloc (Nat.le_refl _) _)) HN1.out HB2.out hn2 hb3 hd
            exact sPost_some r1 (r2 E0.out)
          | false =>
            cases e1 : hd.toList == [42] with
            | true =>
              have E0 := hid (show hd.toList = [42] by simpa using e1)
              have HR2 := hid (show (Tree.node [q, x, y]).sty = some (.pair a c) by rw [HR.out, ← HQE.out, if_neg (by rw [E0.out]; decide), if_pos E0.out])
              go_enter Try.func42, Try.ntmps42
              go_wp2_with (first | (have _ := HB1; go_at_call 42; refine (HY.out _ HC1.out (by omega)).mono ?_; rintro e w3 hp; rw [HSY.out] at hp; obtain ⟨a2, rfl, hb3, hn2⟩ := hp.some; clear hp) | (go_at_call 42; refine (HX.out _ KX.out (by simp; omega)).mono ?_; rintro e w2 hp; rw [HSX.out] at hp; obtain ⟨a1, rfl, hb2, hn1⟩ := hp.some; clear hp; have hw2 := W1.out w2 hb2; obtain ⟨⟨c1, c2⟩, ⟨c3, c4, c5, c6, c7, c8⟩, c9, c10, c11⟩ := HBOX.out w2 hw2; have HC1 := hid c9; have HB1 := hid c11; have HB2 := hid hb2; clear c9 c11 hw2 hb2; have HN1 := hid hn1; clear hn1))
              go_ret2
              rw [HR2.out]
              obtain ⟨r1, r2, r3⟩ := sNode (((Below.refl w.heap.size w).alloc (Nat.le_refl _) _)) HN1.out HB2.out hn2 hb3 hd
              exact sPost_some r1 (r3 E0.out)
            | false =>
              have HR2 := hid (show (Tree.node [q, x, y]).sty = none by rw [HR.out, ← HQE.out, if_neg (by simpa using e0), if_neg (by simpa using e1)])
              go_enter Try.func42, Try.ntmps42
              go_wp2_with (first | (have _ := HB1; go_at_call 42; refine (HY.out _ HC1.out (by omega)).mono ?_; rintro e w3 hp; rw [HSY.out] at hp; obtain ⟨a2, rfl, hb3, hn2⟩ := hp.some; clear hp) | (go_at_call 42; refine (HX.out _ KX.out (by simp; omega)).mono ?_; rintro e w2 hp; rw [HSX.out] at hp; obtain ⟨a1, rfl, hb2, hn1⟩ := hp.some; clear hp; have hw2 := W1.out w2 hb2; obtain ⟨⟨c1, c2⟩, ⟨c3, c4, c5, c6, c7, c8⟩, c9, c10, c11⟩ := HBOX.out w2 hw2; have HC1 := hid c9; have HB1 := hid c11; have HB2 := hid hb2; clear c9 c11 hw2 hb2; have HN1 := hid hn1; clear hn1))
              go_ret2
              rw [HR2.out]
              exact sPost_none (HB1.out.trans (hb3.mono (by omega)))
    · have HR := hid (show (Tree.node ps).sty = none from sty_not3 h3)
      obtain ⟨n, hn⟩ : ∃ n, n = ps.length := ⟨_, rfl⟩
      rw [← hn] at hmc h3 ⊢
      have h4 : ((n : Int) == 3) = false := by simp; omega
      have h5 : ((n : Int) != 3) = true := by simp; omega
      clear hps hA hB hk hp hl ih hn h3
      go_enter Try.func42, Try.ntmps42
      go_wp2
      go_ret2
      rw [HR.out]
      exact sPost_none ((Below.refl _ _).alloc (Nat.le_refl _) _)
end Go.Proofs.Ytlggbhakkhecmaa
