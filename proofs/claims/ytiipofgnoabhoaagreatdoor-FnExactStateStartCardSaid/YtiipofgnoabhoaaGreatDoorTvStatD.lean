/- The start of the machine, by the model: l4Read without frames, StateValid, StateStart. -/
import Derived.Test.YtiipofgnoabhoaaGreatDoorTvStatA
import Derived.Test.YtiipofgnoabhoaaGreatDoorTvClosedS
import Derived.Test.YtiipofgnoabhoaaGreatDoorTu26
namespace Go.Proofs.YtiipofgnoabhoaaGreatDoor
open Go.RowKit

theorem kept_len {w W : World} (h : Kept w W) : w.heap.size ≤ W.heap.size := by
  rcases Nat.eq_zero_or_pos w.heap.size with h0 | h0
  · omega
  · have h1 := h (w.heap.size - 1) (by omega)
    have h2 : w.heap[w.heap.size - 1]? ≠ none := by rw [Array.getElem?_eq_getElem (by omega)]; simp
    rw [← h1] at h2
    rcases Nat.lt_or_ge (w.heap.size - 1) W.heap.size with h3 | h3
    · omega
    · exact absurd (Array.getElem?_eq_none h3) h2
theorem four_of {w : World} {b : Nat} {x y z u : Value} {t : TypeId} (h : w.heap[b]? = some (.cells #[x, y, z, u] t (0, 0))) : (w.cell? ⟨b, 0, none⟩ = some x ∧ w.cell? ⟨b, 1, none⟩ = some y) ∧ w.frozen? ⟨b, 0, none⟩ = false ∧ w.frozen? ⟨b, 1, none⟩ = false := by
  refine ⟨⟨?_, ?_⟩, ?_, ?_⟩ <;> simp [World.cell?, World.frozen?, h]
theorem stC_tree {s : ByteArray} {bit : Int} : (stC s bit).isSome = true ↔ (∃ t, termTree s = some t ∧ t.srt = some false ∧ (t.free []).length = 0) ∧ (0 ≤ bit ∧ bit ≤ 1) := by
  have hb : (bit = 0 ∨ bit = 1) ↔ (0 ≤ bit ∧ bit ≤ 1) := by omega
  unfold stC
  constructor
  · intro h
    split at h
    · rename_i hc
      refine ⟨?_, hb.1 hc⟩
      cases ht : termTree s with
      | none => rw [clC, termTree_none ht] at h; simp at h
      | some t =>
        obtain ⟨_, hso, _, m, hm, htm⟩ := termTree_some ht
        rw [clC, hm] at h
        simp only at h
        split at h
        · rename_i hv
          refine ⟨t, rfl, ?_, ?_⟩
          · have := tm_isVal t []
            rw [htm] at this
            rw [← this, Option.map_some, hv.1]
          · rw [← tm_free t [] m htm, hv.2]; rfl
        · simp at h
    · simp at h
  · rintro ⟨⟨t, ht, hs, hf⟩, hc⟩
    rw [if_pos (hb.2 hc)]
    obtain ⟨_, hso, _, m, hm, htm⟩ := termTree_some ht
    rw [clC, hm]
    simp only
    rw [if_pos]
    · rfl
    · refine ⟨?_, ?_⟩
      · have := tm_isVal t []
        rw [htm, hs, Option.map_some] at this
        exact Option.some.inj this
      · rw [tm_free t [] m htm]; exact List.length_eq_zero_iff.1 hf

set_option maxRecDepth 100000 in
set_option maxHeartbeats 2000000 in
theorem l4Read_start (s : ByteArray) (hs : s.size ≤ 400000000) (g : Nat) (bit : Int) (w : World) : Calls Tryz.prog 67 #[.agg #[.string s, .slice (some ⟨g, 0, none⟩) 0 0, .int .i64 bit]] w fun e w' => (∃ p : Option Addr, e = .returned (.tuple #[.pointer p, .bool (stC s bit).isSome])) ∧ Below w.heap.size w w' := by
  have HC := hid (fun W => l2Term_any s hs W)
  obtain ⟨o1, ho1⟩ : ∃ o, Obj.cells #[.string s, .slice (some ⟨g, 0, none⟩) 0 0, .int .i64 bit] 42 = o := ⟨_, rfl⟩
  obtain ⟨o2, ho2⟩ : ∃ o, Obj.cells #[.string ByteArray.empty, .slice none 0 0, .slice none 0 0, .int .i64 bit] 102 = o := ⟨_, rfl⟩
  obtain ⟨W2, hW2⟩ : ∃ W2, (w.alloc o1).alloc o2 = W2 := ⟨_, rfl⟩
  have hs2 : W2.heap.size = w.heap.size + 2 := by rw [← hW2]; simp
  have b1 : W2.heap[w.heap.size]? = some o1 := by rw [← hW2]; exact heap_alloc_old (w.alloc o1) o2 (by simp) |>.trans (heap_alloc_new w o1)
  have b2 : W2.heap[w.heap.size + 1]? = some o2 := by rw [← hW2]; exact heap_new _ _ _ (by simp)
  have HB2 := hid (show Below w.heap.size w W2 by rw [← hW2]; exact ((Below.refl _ w).alloc (Nat.le_refl _) _).alloc (by simp) _)
  rw [← ho1] at b1
  rw [← ho2] at b2
  have HO1 := hid ho1
  have HO2 := hid ho2
  have HW2 := hid hW2
  have H1 := hid (fun W (hb : Below W2.heap.size W2 W) => cells3_of (block_below b1 hb (by omega)))
  have H2 := hid (fun W (hb : Below W2.heap.size W2 W) => four_of (block_below b2 hb (by omega)))
  have HBX := hid (fun w1 (hb1 : Below W2.heap.size W2 w1) => hb1)
  have HBK := hid (fun W (hb : Below W2.heap.size W2 W) => block_below b1 hb (by omega))
  have HS2 := hid hs2
  have c1 := cells3_of b1
  clear hW2 ho1 ho2 b1 b2 hs2
  have HIN := hid (fun W => l6In_any bit 0 1 W)
  cases ht : termTree s with
  | none =>
    have HB := hid (show (stC s bit).isSome = false by
      cases h : (stC s bit).isSome with
      | false => rfl
      | true => obtain ⟨⟨t, h1, _⟩, _⟩ := stC_tree.1 h; rw [ht] at h1; cases h1)
    rw [HB.out]
    have HT := hid ht
    clear ht
    go_enter Tryz.func67, Tryz.ntmps67
    go_wp2_with fail
    rw [HO1.out, show (Obj.cells #[Value.string { data := #[] }, Value.slice none 0 0, Value.slice none 0 0, Value.int IntKind.i64 bit] 102) = o2 from HO2.out, HW2.out]
    go_wp2_with (go_at_call 60; refine (HC.out _).mono ?_; rintro e w1 hp; rw [HT.out] at hp; obtain ⟨pa, pp, pl, pc, rfl, hpl, hb1⟩ := hp.none; clear hp)
    go_ret2
    have := HB2.out.trans (hb1.mono HB2.out.size)
    exact ⟨⟨_, rfl⟩, this.alloc this.size _⟩
  | some t =>
    obtain ⟨hpt, hso, hsz, mm, hmm, htm⟩ := termTree_some ht
    have HT := hid ht
    have hwt := parse_wt hpt
    have hok := parse_ok hpt
    have HSR := hid (fun (w0 : World) (S : Nat → Prop) (h : Hd) (htt : TIn w0 S t h) (W : World) (hk : Kept w0 W) => l2Sort_any htt hwt hok W hk (kept_len hk))
    have HCL := hid (fun (w0 : World) (S : Nat → Prop) (h : Hd) (htt : TIn w0 S t h) (W : World) (hk : Kept w0 W) => l2Closed_any htt hwt hok hso W hk (kept_len hk))
    have hst : (stC s bit).isSome = true ↔ (t.srt = some false ∧ (t.free []).length = 0) ∧ (0 ≤ bit ∧ bit ≤ 1) := by
      rw [stC_tree]
      constructor
      · rintro ⟨⟨t2, h1, h2, h3⟩, h4⟩
        rw [ht] at h1; obtain rfl := Option.some.inj h1; exact ⟨⟨h2, h3⟩, h4⟩
      · rintro ⟨⟨h2, h3⟩, h4⟩; exact ⟨⟨t, ht, h2, h3⟩, h4⟩
    have no : ∀ {b : Bool}, (b = true ↔ (t.srt = some false ∧ (t.free []).length = 0) ∧ (0 ≤ bit ∧ bit ≤ 1)) → ¬ ((t.srt = some false ∧ (t.free []).length = 0) ∧ (0 ≤ bit ∧ bit ≤ 1)) → b = false := fun h1 h2 => by
      cases hb : ‹Bool› with
      | false => rfl
      | true => exact absurd (h1.1 hb) h2
    have q1 : (strV.toList == [99, 111, 109, 112, 117, 116, 97, 116, 105, 111, 110]) = false := by rw [Go.ByteArray.toList_eq]; decide
    have q2 : (!strV.toList == [99, 111, 109, 112, 117, 116, 97, 116, 105, 111, 110]) = true := by rw [q1]; rfl
    have q3 : (strC.toList == [99, 111, 109, 112, 117, 116, 97, 116, 105, 111, 110]) = true := by rw [Go.ByteArray.toList_eq]; decide
    have q4 : (!strC.toList == [99, 111, 109, 112, 117, 116, 97, 116, 105, 111, 110]) = false := by rw [q3]; rfl
    obtain ⟨v, hv⟩ : ∃ v, t.srt = some v := Option.ne_none_iff_exists'.1 hso
    rw [hv] at HSR
    cases v with
    | true =>
      simp only [srtS] at HSR
      have HB := hid (no hst (fun h => by rw [hv] at h; cases h.1.1))
      rw [HB.out]
      clear ht hpt hso hmm htm hwt hok hst no hv
      go_enter Tryz.func67, Tryz.ntmps67
      go_wp2_with fail
      rw [HO1.out, show (Obj.cells #[Value.string { data := #[] }, Value.slice none 0 0, Value.slice none 0 0, Value.int IntKind.i64 bit] 102) = o2 from HO2.out, HW2.out]
      go_wp2_with (first
        | (go_at_call 92; have _ := hba; refine (HSR.out _ _ _ HTI.out _ k1).mono ?_; rintro e w2 ⟨rfl, hb2⟩; have hbc := HXA.out.trans (hb2.mono HXA.out.size); have h1b := H1.out _ hbc; have h2b := H2.out _ hbc; have k2 := k1.below hb2 (kept_len k1); have tbl := block_below (heap_new w1 (.cells #[.string pa, .slice pp pl pc] 69) _ rfl) hb2 (by simp); have tb2 := cells_of_pair tbl)
        | (go_at_call 60; refine (HC.out _).mono ?_; rintro e w1 hp; rw [HT.out] at hp; obtain ⟨pa, pp, pl, pc, rfl, hb1, htr⟩ := hp.some; clear hp; have HTI := hid htr; clear htr; have hbx := HBX.out w1 hb1; have hba := hbx.alloc hbx.size (.cells #[.string pa, .slice pp pl pc] 69); have h1 := H1.out _ hba; have h2 := H2.out _ hba; have HXA := hid hba; have k1 : Kept w1 (w1.alloc (.cells #[.string pa, .slice pp pl pc] 69)) := (Kept.refl _).alloc (Nat.le_refl _) _; have tb1 := cells_of_pair (heap_new w1 (.cells #[.string pa, .slice pp pl pc] 69) _ rfl)))
      go_ret2
      exact ⟨⟨_, rfl⟩, HB2.out.trans (hbc.mono HB2.out.size)⟩
    | false =>
      simp only [srtS] at HSR
      by_cases hf : (t.free []).length = 0
      · rw [decide_eq_true hf] at HCL
        by_cases hb : 0 ≤ bit ∧ bit ≤ 1
        · have HB := hid (hst.2 ⟨⟨hv, hf⟩, hb⟩)
          rw [decide_eq_true hb] at HIN
          rw [HB.out]
          clear ht hpt hso hmm htm hwt hok hst no hv hf hb
          go_enter Tryz.func67, Tryz.ntmps67
          go_wp2_with fail
          rw [HO1.out, show (Obj.cells #[Value.string { data := #[] }, Value.slice none 0 0, Value.slice none 0 0, Value.int IntKind.i64 bit] 102) = o2 from HO2.out, HW2.out]
          go_wp2_with (first
            | (go_at_call 55; have _ := hbd; refine (HIN.out _).mono ?_; rintro e w4 ⟨rfl, rfl⟩)
            | (go_at_call 89; have _ := hbc; refine (HCL.out _ _ _ HTI.out _ k2).mono ?_; rintro e w3 ⟨rfl, hb3⟩; have hbd := hbc.trans (hb3.mono hbc.size); have h1c := H1.out _ hbd; have h2c := H2.out _ hbd; have tb3 := cells_of_pair (block_below tbl hb3 (lt_of_block tbl)))
            | (go_at_call 92; have _ := hba; refine (HSR.out _ _ _ HTI.out _ k1).mono ?_; rintro e w2 ⟨rfl, hb2⟩; have hbc := HXA.out.trans (hb2.mono HXA.out.size); have h1b := H1.out _ hbc; have h2b := H2.out _ hbc; have k2 := k1.below hb2 (kept_len k1); have tbl := block_below (heap_new w1 (.cells #[.string pa, .slice pp pl pc] 69) _ rfl) hb2 (by simp); have tb2 := cells_of_pair tbl)
            | (go_at_call 60; refine (HC.out _).mono ?_; rintro e w1 hp; rw [HT.out] at hp; obtain ⟨pa, pp, pl, pc, rfl, hb1, htr⟩ := hp.some; clear hp; have HTI := hid htr; clear htr; have hbx := HBX.out w1 hb1; have hba := hbx.alloc hbx.size (.cells #[.string pa, .slice pp pl pc] 69); have h1 := H1.out _ hba; have h2 := H2.out _ hba; have HXA := hid hba; have k1 : Kept w1 (w1.alloc (.cells #[.string pa, .slice pp pl pc] 69)) := (Kept.refl _).alloc (Nat.le_refl _) _; have tb1 := cells_of_pair (heap_new w1 (.cells #[.string pa, .slice pp pl pc] 69) _ rfl)))
          have hq := cells3_of (w := (w3.setCell ⟨w.heap.size + 1, 0, none⟩ (.string pa)).setCell ⟨w.heap.size + 1, 1, none⟩ (.slice pp pl pc)) (b := w.heap.size) ((Below.heap_setCell _ _ _ _ (by show w.heap.size ≠ w.heap.size + 1; omega)).trans ((Below.heap_setCell _ _ _ _ (by show w.heap.size ≠ w.heap.size + 1; omega)).trans (HBK.out _ hbd)))
          refine wp_loop_rounds 1 ?_
          rw [rounds_succ]
          go_wp2_with fail
          go_ret2
          have hbe := HB2.out.trans (hbd.mono HB2.out.size)
          exact ⟨⟨_, rfl⟩, (hbe.setCell (by show w.heap.size ≤ w.heap.size + 1; omega) _).setCell (by show w.heap.size ≤ w.heap.size + 1; omega) _⟩
        · have HB := hid (no hst (fun h => hb h.2))
          rw [decide_eq_false hb] at HIN
          rw [HB.out]
          clear ht hpt hso hmm htm hwt hok hst no hv hf hb
          go_enter Tryz.func67, Tryz.ntmps67
          go_wp2_with fail
          rw [HO1.out, show (Obj.cells #[Value.string { data := #[] }, Value.slice none 0 0, Value.slice none 0 0, Value.int IntKind.i64 bit] 102) = o2 from HO2.out, HW2.out]
          go_wp2_with (first
            | (go_at_call 55; have _ := hbd; refine (HIN.out _).mono ?_; rintro e w4 ⟨rfl, rfl⟩)
            | (go_at_call 89; have _ := hbc; refine (HCL.out _ _ _ HTI.out _ k2).mono ?_; rintro e w3 ⟨rfl, hb3⟩; have hbd := hbc.trans (hb3.mono hbc.size); have h1c := H1.out _ hbd; have h2c := H2.out _ hbd; have tb3 := cells_of_pair (block_below tbl hb3 (lt_of_block tbl)))
            | (go_at_call 92; have _ := hba; refine (HSR.out _ _ _ HTI.out _ k1).mono ?_; rintro e w2 ⟨rfl, hb2⟩; have hbc := HXA.out.trans (hb2.mono HXA.out.size); have h1b := H1.out _ hbc; have h2b := H2.out _ hbc; have k2 := k1.below hb2 (kept_len k1); have tbl := block_below (heap_new w1 (.cells #[.string pa, .slice pp pl pc] 69) _ rfl) hb2 (by simp); have tb2 := cells_of_pair tbl)
            | (go_at_call 60; refine (HC.out _).mono ?_; rintro e w1 hp; rw [HT.out] at hp; obtain ⟨pa, pp, pl, pc, rfl, hb1, htr⟩ := hp.some; clear hp; have HTI := hid htr; clear htr; have hbx := HBX.out w1 hb1; have hba := hbx.alloc hbx.size (.cells #[.string pa, .slice pp pl pc] 69); have h1 := H1.out _ hba; have h2 := H2.out _ hba; have HXA := hid hba; have k1 : Kept w1 (w1.alloc (.cells #[.string pa, .slice pp pl pc] 69)) := (Kept.refl _).alloc (Nat.le_refl _) _; have tb1 := cells_of_pair (heap_new w1 (.cells #[.string pa, .slice pp pl pc] 69) _ rfl)))
          go_ret2
          exact ⟨⟨_, rfl⟩, HB2.out.trans (hbd.mono HB2.out.size)⟩
      · have HB := hid (no hst (fun h => hf h.1.2))
        rw [decide_eq_false hf] at HCL
        rw [HB.out]
        clear ht hpt hso hmm htm hwt hok hst no hv hf
        go_enter Tryz.func67, Tryz.ntmps67
        go_wp2_with fail
        rw [HO1.out, show (Obj.cells #[Value.string { data := #[] }, Value.slice none 0 0, Value.slice none 0 0, Value.int IntKind.i64 bit] 102) = o2 from HO2.out, HW2.out]
        go_wp2_with (first
          | (go_at_call 89; have _ := hbc; refine (HCL.out _ _ _ HTI.out _ k2).mono ?_; rintro e w3 ⟨rfl, hb3⟩; have hbd := hbc.trans (hb3.mono hbc.size); have h1c := H1.out _ hbd; have h2c := H2.out _ hbd; have tb3 := cells_of_pair (block_below tbl hb3 (lt_of_block tbl)))
          | (go_at_call 92; have _ := hba; refine (HSR.out _ _ _ HTI.out _ k1).mono ?_; rintro e w2 ⟨rfl, hb2⟩; have hbc := HXA.out.trans (hb2.mono HXA.out.size); have h1b := H1.out _ hbc; have h2b := H2.out _ hbc; have k2 := k1.below hb2 (kept_len k1); have tbl := block_below (heap_new w1 (.cells #[.string pa, .slice pp pl pc] 69) _ rfl) hb2 (by simp); have tb2 := cells_of_pair tbl)
          | (go_at_call 60; refine (HC.out _).mono ?_; rintro e w1 hp; rw [HT.out] at hp; obtain ⟨pa, pp, pl, pc, rfl, hb1, htr⟩ := hp.some; clear hp; have HTI := hid htr; clear htr; have hbx := HBX.out w1 hb1; have hba := hbx.alloc hbx.size (.cells #[.string pa, .slice pp pl pc] 69); have h1 := H1.out _ hba; have h2 := H2.out _ hba; have HXA := hid hba; have k1 : Kept w1 (w1.alloc (.cells #[.string pa, .slice pp pl pc] 69)) := (Kept.refl _).alloc (Nat.le_refl _) _; have tb1 := cells_of_pair (heap_new w1 (.cells #[.string pa, .slice pp pl pc] 69) _ rfl)))
        go_ret2
        exact ⟨⟨_, rfl⟩, HB2.out.trans (hbd.mono HB2.out.size)⟩

set_option maxHeartbeats 1000000 in
theorem specStateValid_start (s : ByteArray) (hs : s.size ≤ 400000000) (g : Nat) (bit : Int) (w : World) : Calls Tryz.prog 28 #[.agg #[.string s, .slice (some ⟨g, 0, none⟩) 0 0, .int .i64 bit]] w fun e w' => e = .returned (.bool (stC s bit).isSome) ∧ Below w.heap.size w w' := by
  have HC := hid (fun W => l4Read_start s hs g bit W)
  generalize (stC s bit).isSome = b at HC ⊢
  have k1 := cells3_of (heap_new w (.cells #[.string s, .slice (some ⟨g, 0, none⟩) 0 0, .int .i64 bit] 42) w.heap.size rfl)
  go_enter Tryz.func28, Tryz.ntmps28
  go_wp2_with (go_at_call 67; refine (HC.out _).mono ?_; rintro e w1 ⟨⟨p, rfl⟩, hb1⟩)
  go_ret
  exact ⟨rfl, ((Below.refl _ w).alloc (Nat.le_refl _) _).trans (hb1.mono (by simp))⟩
end Go.Proofs.YtiipofgnoabhoaaGreatDoor
