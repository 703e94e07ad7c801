/- The start of the machine, by the program: state without frames. -/
import Derived.Test.YtiipofgnoabhoaaGreatDoorTvStatA
import Derived.Test.YtiipofgnoabhoaaGreatDoorTvTextT
import Derived.Deep.RegionLaw
namespace Go.Proofs.YtiipofgnoabhoaaGreatDoor
open Go.RowKit

theorem tail_facts {w V : World} {a : Nat} {bit : Int} {T : ByteArray} {g : Nat} (h1 : V.heap[w.heap.size]? = some (.cells #[.pointer (some ⟨a, 0, none⟩), .slice none 0 0, .int .i64 bit] 61 (0, 0))) (h2 : V.heap[w.heap.size + 1]? = some (.cells #[.string ByteArray.empty, .slice none 0 0, .int .i64 0] 42 (0, 0)))
    (h3 : V.heap[g]? = some (.cells #[.string ByteArray.empty, .slice none 0 0, .int .i64 0] 42 (0, 0))) (hg : w.heap.size + 2 ≤ g) (hb : Below w.heap.size w V) :
    ((((((V).setCell ⟨g, 0, none⟩ (.string T)).setCell ⟨g, 1, none⟩ (.slice none 0 0)).setCell ⟨g, 2, none⟩ (.int .i64 bit)).cell? ⟨w.heap.size, 0, none⟩ = some (.pointer (some ⟨a, 0, none⟩)) ∧ ((((V).setCell ⟨g, 0, none⟩ (.string T)).setCell ⟨g, 1, none⟩ (.slice none 0 0)).setCell ⟨g, 2, none⟩ (.int .i64 bit)).cell? ⟨w.heap.size, 1, none⟩ = some (.slice none 0 0) ∧ ((((V).setCell ⟨g, 0, none⟩ (.string T)).setCell ⟨g, 1, none⟩ (.slice none 0 0)).setCell ⟨g, 2, none⟩ (.int .i64 bit)).cell? ⟨w.heap.size, 2, none⟩ = some (.int .i64 bit)) ∧ (((((V).setCell ⟨g, 0, none⟩ (.string T)).setCell ⟨g, 1, none⟩ (.slice none 0 0)).setCell ⟨g, 2, none⟩ (.int .i64 bit)).cell? ⟨g, 0, none⟩ = some (.string T) ∧ ((((V).setCell ⟨g, 0, none⟩ (.string T)).setCell ⟨g, 1, none⟩ (.slice none 0 0)).setCell ⟨g, 2, none⟩ (.int .i64 bit)).cell? ⟨g, 1, none⟩ = some (.slice none 0 0) ∧ ((((V).setCell ⟨g, 0, none⟩ (.string T)).setCell ⟨g, 1, none⟩ (.slice none 0 0)).setCell ⟨g, 2, none⟩ (.int .i64 bit)).cell? ⟨g, 2, none⟩ = some (.int .i64 bit)) ∧ (((((V).setCell ⟨g, 0, none⟩ (.string T)).setCell ⟨g, 1, none⟩ (.slice none 0 0)).setCell ⟨g, 2, none⟩ (.int .i64 bit)).cell? ⟨w.heap.size + 1, 0, none⟩ = some (.string ByteArray.empty) ∧ ((((V).setCell ⟨g, 0, none⟩ (.string T)).setCell ⟨g, 1, none⟩ (.slice none 0 0)).setCell ⟨g, 2, none⟩ (.int .i64 bit)).cell? ⟨w.heap.size + 1, 1, none⟩ = some (.slice none 0 0) ∧ ((((V).setCell ⟨g, 0, none⟩ (.string T)).setCell ⟨g, 1, none⟩ (.slice none 0 0)).setCell ⟨g, 2, none⟩ (.int .i64 bit)).cell? ⟨w.heap.size + 1, 2, none⟩ = some (.int .i64 0)) ∧ (((((V).setCell ⟨g, 0, none⟩ (.string T)).setCell ⟨g, 1, none⟩ (.slice none 0 0)).setCell ⟨g, 2, none⟩ (.int .i64 bit)).frozen? ⟨w.heap.size + 1, 0, none⟩ = false ∧ ((((V).setCell ⟨g, 0, none⟩ (.string T)).setCell ⟨g, 1, none⟩ (.slice none 0 0)).setCell ⟨g, 2, none⟩ (.int .i64 bit)).frozen? ⟨w.heap.size + 1, 1, none⟩ = false ∧ ((((V).setCell ⟨g, 0, none⟩ (.string T)).setCell ⟨g, 1, none⟩ (.slice none 0 0)).setCell ⟨g, 2, none⟩ (.int .i64 bit)).frozen? ⟨w.heap.size + 1, 2, none⟩ = false) ∧ ((((((((V).setCell ⟨g, 0, none⟩ (.string T)).setCell ⟨g, 1, none⟩ (.slice none 0 0)).setCell ⟨g, 2, none⟩ (.int .i64 bit)).setCell ⟨w.heap.size + 1, 0, none⟩ (.string T)).setCell ⟨w.heap.size + 1, 1, none⟩ (.slice none 0 0)).setCell ⟨w.heap.size + 1, 2, none⟩ (.int .i64 bit)).cell? ⟨w.heap.size + 1, 0, none⟩ = some (.string T) ∧ (((((((V).setCell ⟨g, 0, none⟩ (.string T)).setCell ⟨g, 1, none⟩ (.slice none 0 0)).setCell ⟨g, 2, none⟩ (.int .i64 bit)).setCell ⟨w.heap.size + 1, 0, none⟩ (.string T)).setCell ⟨w.heap.size + 1, 1, none⟩ (.slice none 0 0)).setCell ⟨w.heap.size + 1, 2, none⟩ (.int .i64 bit)).cell? ⟨w.heap.size + 1, 1, none⟩ = some (.slice none 0 0) ∧ (((((((V).setCell ⟨g, 0, none⟩ (.string T)).setCell ⟨g, 1, none⟩ (.slice none 0 0)).setCell ⟨g, 2, none⟩ (.int .i64 bit)).setCell ⟨w.heap.size + 1, 0, none⟩ (.string T)).setCell ⟨w.heap.size + 1, 1, none⟩ (.slice none 0 0)).setCell ⟨w.heap.size + 1, 2, none⟩ (.int .i64 bit)).cell? ⟨w.heap.size + 1, 2, none⟩ = some (.int .i64 bit)) ∧ Below w.heap.size w (((((((V).setCell ⟨g, 0, none⟩ (.string T)).setCell ⟨g, 1, none⟩ (.slice none 0 0)).setCell ⟨g, 2, none⟩ (.int .i64 bit)).setCell ⟨w.heap.size + 1, 0, none⟩ (.string T)).setCell ⟨w.heap.size + 1, 1, none⟩ (.slice none 0 0)).setCell ⟨w.heap.size + 1, 2, none⟩ (.int .i64 bit))) := by
  have e : ∀ k, k ≠ g → ((((V).setCell ⟨g, 0, none⟩ (.string T)).setCell ⟨g, 1, none⟩ (.slice none 0 0)).setCell ⟨g, 2, none⟩ (.int .i64 bit)).heap[k]? = V.heap[k]? := fun k hk => by
    rw [Below.heap_setCell _ _ _ _ (by exact hk), Below.heap_setCell _ _ _ _ (by exact hk), Below.heap_setCell _ _ _ _ (by exact hk)]
  have q1 := (e w.heap.size (by omega)).trans h1
  have q2 := (e (w.heap.size + 1) (by omega)).trans h2
  have q3 := set_three h3 (.string T) (.slice none 0 0) (.int .i64 bit)
  have q4 := set_three q2 (.string T) (.slice none 0 0) (.int .i64 bit)
  have t1 := cells3_of q1
  have t2 := cells3_of q2
  exact ⟨t1.1, (cells3_of q3).1, t2.1, t2.2, (cells3_of q4).1, ((((((hb.setCell (by show w.heap.size ≤ g; omega) _).setCell (by show w.heap.size ≤ g; omega) _).setCell (by show w.heap.size ≤ g; omega) _).setCell (by show w.heap.size ≤ w.heap.size + 1; omega) _).setCell (by show w.heap.size ≤ w.heap.size + 1; omega) _).setCell (by show w.heap.size ≤ w.heap.size + 1; omega) _)⟩

theorem tail_made {w V : World} {a : Nat} {bit : Int} {T : ByteArray} {g : Nat} (h1 : V.heap[w.heap.size]? = some (.cells #[.pointer (some ⟨a, 0, none⟩), .slice none 0 0, .int .i64 bit] 61 (0, 0))) (h2 : V.heap[w.heap.size + 1]? = some (.cells #[.string ByteArray.empty, .slice none 0 0, .int .i64 0] 42 (0, 0)))
    (h3 : V.heap[g]? = some (.cells #[.string T, .slice none 0 0, .int .i64 bit] 42 (0, 0))) (hb : Below w.heap.size w V) :
    (((V).cell? ⟨w.heap.size, 0, none⟩ = some (.pointer (some ⟨a, 0, none⟩)) ∧ (V).cell? ⟨w.heap.size, 1, none⟩ = some (.slice none 0 0) ∧ (V).cell? ⟨w.heap.size, 2, none⟩ = some (.int .i64 bit)) ∧ ((V).cell? ⟨g, 0, none⟩ = some (.string T) ∧ (V).cell? ⟨g, 1, none⟩ = some (.slice none 0 0) ∧ (V).cell? ⟨g, 2, none⟩ = some (.int .i64 bit)) ∧ ((V).cell? ⟨w.heap.size + 1, 0, none⟩ = some (.string ByteArray.empty) ∧ (V).cell? ⟨w.heap.size + 1, 1, none⟩ = some (.slice none 0 0) ∧ (V).cell? ⟨w.heap.size + 1, 2, none⟩ = some (.int .i64 0)) ∧ ((V).frozen? ⟨w.heap.size + 1, 0, none⟩ = false ∧ (V).frozen? ⟨w.heap.size + 1, 1, none⟩ = false ∧ (V).frozen? ⟨w.heap.size + 1, 2, none⟩ = false) ∧ (((((V).setCell ⟨w.heap.size + 1, 0, none⟩ (.string T)).setCell ⟨w.heap.size + 1, 1, none⟩ (.slice none 0 0)).setCell ⟨w.heap.size + 1, 2, none⟩ (.int .i64 bit)).cell? ⟨w.heap.size + 1, 0, none⟩ = some (.string T) ∧ ((((V).setCell ⟨w.heap.size + 1, 0, none⟩ (.string T)).setCell ⟨w.heap.size + 1, 1, none⟩ (.slice none 0 0)).setCell ⟨w.heap.size + 1, 2, none⟩ (.int .i64 bit)).cell? ⟨w.heap.size + 1, 1, none⟩ = some (.slice none 0 0) ∧ ((((V).setCell ⟨w.heap.size + 1, 0, none⟩ (.string T)).setCell ⟨w.heap.size + 1, 1, none⟩ (.slice none 0 0)).setCell ⟨w.heap.size + 1, 2, none⟩ (.int .i64 bit)).cell? ⟨w.heap.size + 1, 2, none⟩ = some (.int .i64 bit)) ∧ Below w.heap.size w ((((V).setCell ⟨w.heap.size + 1, 0, none⟩ (.string T)).setCell ⟨w.heap.size + 1, 1, none⟩ (.slice none 0 0)).setCell ⟨w.heap.size + 1, 2, none⟩ (.int .i64 bit))) := by
  have q4 := set_three h2 (.string T) (.slice none 0 0) (.int .i64 bit)
  have t1 := cells3_of h1
  have t2 := cells3_of h2
  exact ⟨t1.1, (cells3_of h3).1, t2.1, t2.2, (cells3_of q4).1, ((hb.setCell (by show w.heap.size ≤ w.heap.size + 1; omega) _).setCell (by show w.heap.size ≤ w.heap.size + 1; omega) _).setCell (by show w.heap.size ≤ w.heap.size + 1; omega) _⟩

set_option maxRecDepth 100000 in
set_option maxHeartbeats 2000000 in
theorem state_start {w0 : World} {S : Nat → Prop} {m : Tm} {a : Nat} (hn : NIn w0 S m a) (hf : m.fit) (hl : m.write.length ≤ 12000) (bit : Int) (w : World) (hk : Kept w0 w) (hw : w0.heap.size ≤ w.heap.size) :
    Calls Tryz.prog 69 #[.agg #[.pointer (some ⟨a, 0, none⟩), .slice none 0 0, .int .i64 bit]] w fun e w' => e = .returned (.agg #[.string ⟨m.write.toArray⟩, .slice none 0 0, .int .i64 bit]) ∧ Below w.heap.size w w' := by
  have HT := hid (fun W (hkW : Kept w0 W) (hs : w0.heap.size ≤ W.heap.size) => text_any hn hf hl W hkW hs)
  obtain ⟨T, hT⟩ : ∃ T, (⟨m.write.toArray⟩ : ByteArray) = T := ⟨_, rfl⟩
  rw [hT] at HT ⊢
  have HK := hid hk
  clear hn hf hl hT hk
  obtain ⟨o1, ho1⟩ : ∃ o, Obj.cells #[.pointer (some ⟨a, 0, none⟩), .slice none 0 0, .int .i64 bit] 61 = o := ⟨_, rfl⟩
  obtain ⟨o2, ho2⟩ : ∃ o, Obj.cells #[.string ByteArray.empty, .slice none 0 0, .int .i64 0] 42 = o := ⟨_, rfl⟩
  obtain ⟨W2, hW2⟩ : ∃ W2, (w.alloc o1).alloc o2 = W2 := ⟨_, rfl⟩
  have hs2 : W2.heap.size = w.heap.size + 2 := by rw [← hW2]; simp
  have b1 : W2.heap[w.heap.size]? = some o1 := by rw [← hW2]; exact heap_alloc_old (w.alloc o1) o2 (by simp) |>.trans (heap_alloc_new w o1)
  have b2 : W2.heap[w.heap.size + 1]? = some o2 := by rw [← hW2]; exact heap_new _ _ _ (by simp)
  have HB2 := hid (show Below w.heap.size w W2 by rw [← hW2]; exact ((Below.refl _ w).alloc (Nat.le_refl _) _).alloc (by simp) _)
  rw [← ho1] at b1
  rw [← ho2] at b2
  have HBD := hid (show Below w.heap.size w W2.drew from HB2.out.trans ((Below.refl _ W2).drew))
  have HBA := hid (show Below w.heap.size w (W2.alloc (.cells #[.string { data := #[] }, .slice none 0 0, .int .i64 0] 42)).drew from (HB2.out.alloc (by omega) _).trans ((Below.refl _ _).drew))
  have KD := hid (HK.out.below HBD.out hw)
  have KA := hid (HK.out.below HBA.out hw)
  have SD := hid (show w0.heap.size ≤ W2.drew.heap.size by show w0.heap.size ≤ W2.heap.size; omega)
  have SA := hid (show w0.heap.size ≤ (W2.alloc (.cells #[.string { data := #[] }, .slice none 0 0, .int .i64 0] 42)).drew.heap.size by show w0.heap.size ≤ (W2.alloc _).heap.size; rw [World.size_alloc]; omega)
  have HW2 := hid hW2
  have HO1 := hid ho1
  have HO2 := hid ho2
  have c1 := cells3_of b1
  have c2 := cells3_of b2
  have H1 := hid (fun W (hb : Below W2.heap.size W2 W) => cells3_of (block_below b1 hb (by omega)))
  have H2 := hid (fun W (hb : Below W2.heap.size W2 W) => block_below b2 hb (by omega))
  have HS2 := hid hs2
  have HX2 := hid (fun w1 (hb1 : Below (W2.alloc (.cells #[.string { data := #[] }, .slice none 0 0, .int .i64 0] 42)).drew.heap.size (W2.alloc (.cells #[.string { data := #[] }, .slice none 0 0, .int .i64 0] 42)).drew w1) => (((Below.refl W2.heap.size W2).alloc (Nat.le_refl _) (.cells #[.string { data := #[] }, .slice none 0 0, .int .i64 0] 42)).trans ((Below.refl _ _).drew)).trans (hb1.mono (by show W2.heap.size ≤ (W2.alloc _).heap.size; rw [World.size_alloc]; omega)))
  have HX3 := hid (fun w1 (hb1 : Below (W2.alloc (.cells #[.string { data := #[] }, .slice none 0 0, .int .i64 0] 42)).drew.heap.size (W2.alloc (.cells #[.string { data := #[] }, .slice none 0 0, .int .i64 0] 42)).drew w1) => (show w1.heap[W2.heap.size]? = some (.cells #[.string ByteArray.empty, .slice none 0 0, .int .i64 0] 42 (0, 0)) from
    (hb1.block _ (by show W2.heap.size < (W2.alloc _).heap.size; rw [World.size_alloc]; omega)).trans (heap_alloc_new W2 _)))
  have k5 := H1.out (W2.alloc (.cells #[.string { data := #[] }, .slice none 0 0, .int .i64 0] 42)) ((Below.refl _ W2).alloc (Nat.le_refl _) _)
  have HB1b := hid (fun W (hb : Below W2.heap.size W2 W) => block_below b1 hb (by omega))
  have HFA := hid (fun w1 (hb : Below W2.heap.size W2 w1) => tail_facts (bit := bit) (T := T) (g := w1.heap.size) (HB1b.out (w1.alloc (.cells #[.string { data := #[] }, .slice none 0 0, .int .i64 0] 42)) (hb.alloc hb.size _)) (H2.out (w1.alloc (.cells #[.string { data := #[] }, .slice none 0 0, .int .i64 0] 42)) (hb.alloc hb.size _)) (heap_alloc_new w1 _) (by have := hb.size; have := HS2.out; omega) ((HB2.out.trans (hb.mono HB2.out.size)).alloc (by have := hb.size; have := HB2.out.size; omega) _))
  have HFC := hid (fun w1 (hb : Below W2.heap.size W2 w1) => tail_made (bit := bit) (T := T) (g := w1.heap.size) (HB1b.out (w1.alloc (.cells #[.string T, .slice none 0 0, .int .i64 bit] 42)) (hb.alloc hb.size _)) (H2.out (w1.alloc (.cells #[.string T, .slice none 0 0, .int .i64 bit] 42)) (hb.alloc hb.size _)) (heap_alloc_new w1 _) ((HB2.out.trans (hb.mono HB2.out.size)).alloc (by have := hb.size; have := HB2.out.size; omega) _))
  have HFB := hid (fun w1 (hb1 : Below (W2.alloc (.cells #[.string { data := #[] }, .slice none 0 0, .int .i64 0] 42)).drew.heap.size (W2.alloc (.cells #[.string { data := #[] }, .slice none 0 0, .int .i64 0] 42)).drew w1) => tail_facts (bit := bit) (T := T) (g := W2.heap.size) (HB1b.out w1 (HX2.out w1 hb1)) (H2.out w1 (HX2.out w1 hb1)) (HX3.out w1 hb1) (by have := HS2.out; omega) (HB2.out.trans ((HX2.out w1 hb1).mono HB2.out.size)))
  have HX1 := hid (fun w1 (hb1 : Below W2.drew.heap.size W2.drew w1) => ((Below.refl W2.heap.size W2).drew).trans (show Below W2.heap.size W2.drew w1 from hb1))
  clear hW2 ho1 ho2 b1 b2 hs2
  go_enter Tryz.func69, Tryz.ntmps69
  go_wp2_with fail
  rw [HO1.out]
  rw [show (Obj.cells #[Value.string { data := #[] }, Value.slice none 0 0, Value.int IntKind.i64 0] 42) = o2 from HO2.out, HW2.out]
  go_region_law (go_simp; go_at_call 117; first
    | (refine (HT.out _ KD.out SD.out).mono ?_; rintro e w1 ⟨rfl, hb1⟩; have hbw := HX1.out w1 hb1; have k1 := H1.out w1 hbw; have k4 := H1.out (w1.alloc (.cells #[.string { data := #[] }, .slice none 0 0, .int .i64 0] 42)) (hbw.alloc hbw.size _); have kf := HFC.out w1 hbw)
    | (refine (HT.out _ KA.out SA.out).mono ?_; rintro e w1 ⟨rfl, hb1⟩; have hbw := HX2.out w1 hb1; have k1 := H1.out w1 hbw; have k3 := cells3_of (HX3.out w1 hb1); have kf := HFB.out w1 hb1))
  all_goals
    obtain ⟨f1, f2, f3, f4, f5, f6⟩ := kf
    clear k1 c1 c2 k5
    go_wp2_with fail
    refine wp_loop_rounds 1 ?_
    rw [rounds_succ]
    go_wp2_with fail
    refine bodyPost_ret (v := .agg #[.string T, .slice none 0 0, .int .i64 bit]) (by simp [results, Tryz.results69, go_sem, f5.1, f5.2.1, f5.2.2]) rfl ?_
    exact ⟨rfl, f6⟩
end Go.Proofs.YtiipofgnoabhoaaGreatDoor
