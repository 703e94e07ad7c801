/- The program's reading of a whole text; how many atoms. -/
import Derived.Test.YtfogjomebcponaaDoorImplA
namespace Go.Proofs.YtfogjomebcponaaDoor
open Go.RowKit

set_option maxRecDepth 100000 in
set_option maxHeartbeats 1000000 in
theorem readPhrase_any (s : ByteArray) (hs : s.size ≤ 400000000) (w : World) : Calls Tryd.prog 22 #[.string s] w (TreePost (parse s) w) := by
  by_cases h1 : s.size ≤ 12000
  · cases hr : rd s 101 0 with
    | none =>
      have hp : parse s = none := by rw [parse, if_pos h1, hr]
      rw [hp]
      have HC := hid (fun W => phraseAt_any s h1 100 0 0 W (Nat.zero_le _) rfl)
      have HR := hid hr
      clear hr hp
      go_enter Tryd.func22, Tryd.ntmps22
      go_wp2_with (go_at_call 34; refine (HC.out _).mono ?_; rintro e w1 hp; obtain ⟨pa, pp, pl, pc, pm, rfl, hpl, hb1⟩ := hp.none HR.out; clear hp; have k0 := fun o => cells_of_pair (pair_alloc (block_below (heap_new w (.cells #[.string ByteArray.empty, .slice none 0 0] 45) _ rfl) hb1 (by simp)) o))
      refine bodyPost_ret (v := .tuple #[.agg #[.string pa, .slice pp pl pc], .bool false]) (by simp [results, Tryd.results22, go_sem, (k0 _).1, (k0 _).2.1]) rfl ?_
      go_light
      exact treePost_none hpl (result_below hb1 _ _ _)
    | some x =>
      obtain ⟨t, n⟩ := x
      have HC := hid (fun W => phraseAt_any s h1 100 0 0 W (Nat.zero_le _) rfl)
      have HR := hid hr
      by_cases hn : n = s.size
      · have hp : parse s = some t := by rw [parse, if_pos h1, hr]; simp [hn]
        rw [hp]
        have d2 : ((n : Int) == (s.size : Int)) = true := beq_iff_eq.2 (by omega)
        clear hr hp hn
        go_enter Tryd.func22, Tryd.ntmps22
        go_wp2_with (go_at_call 34; refine (HC.out _).mono ?_; rintro e w1 hp; obtain ⟨pa, pp, pl, pc, rfl, hb1, ht⟩ := hp.some HR.out; clear hp; have k0 := fun o => cells_of_pair (pair_alloc (block_below (heap_new w (.cells #[.string ByteArray.empty, .slice none 0 0] 45) _ rfl) hb1 (by simp)) o))
        refine bodyPost_ret (v := .tuple #[.agg #[.string pa, .slice pp pl pc], .bool true]) (by simp [results, Tryd.results22, go_sem, (k0 _).1, (k0 _).2.1]) rfl ?_
        go_light
        exact treePost_some (result_tree hb1 ht _ _ _) (result_below hb1 _ _ _)
      · have hp : parse s = none := by rw [parse, if_pos h1, hr]; simp [hn]
        rw [hp]
        have d2 : ((n : Int) == (s.size : Int)) = false := beq_eq_false_iff_ne.2 (by omega)
        clear hr hp hn
        go_enter Tryd.func22, Tryd.ntmps22
        go_wp2_with (go_at_call 34; refine (HC.out _).mono ?_; rintro e w1 hp; obtain ⟨pa, pp, pl, pc, rfl, hb1, ht⟩ := hp.some HR.out; clear hp; have k0 := fun o => cells_of_pair (pair_alloc (block_below (heap_new w (.cells #[.string ByteArray.empty, .slice none 0 0] 45) _ rfl) hb1 (by simp)) o))
        refine bodyPost_ret (v := .tuple #[.agg #[.string pa, .slice pp pl pc], .bool false]) (by simp [results, Tryd.results22, go_sem, (k0 _).1, (k0 _).2.1]) rfl ?_
        go_light
        exact treePost_none ht.len (result_below hb1 _ _ _)
  · have hp : parse s = none := by rw [parse, if_neg h1]
    rw [hp]
    have hs' : s.size ≤ 9223372036854775807 := by omega
    have h2 : 12000 < s.size := by omega
    clear hp h1
    go_enter Tryd.func22, Tryd.ntmps22
    go_wp2_with fail
    refine bodyPost_ret (v := .tuple #[.agg #[.string ByteArray.empty, .slice none 0 0], .bool false]) (by simp [results, Tryd.results22, go_sem]; rfl) rfl ?_
    exact treePost_none (Nat.zero_le _) ((Below.refl _ _).alloc (by simp) _)

set_option maxRecDepth 100000 in
set_option maxHeartbeats 1000000 in
theorem atoms_any {w0 : World} {S : Nat → Prop} {t : Tree} {h : Hd} (ht : TIn w0 S t h) : t.size ≤ 12000 → ∀ w, Kept w0 w → w0.heap.size ≤ w.heap.size →
    Calls Tryd.prog 35 #[.agg #[.string h.a, .slice h.p h.l h.c]] w fun e w' => e = .returned (.int .i64 (t.size : Int)) ∧ Below w.heap.size w w' := by
  induction ht with
  | atom s hne hm =>
    intro _ w _ _
    go_enter Tryd.func35, Tryd.ntmps35
    go_wp2
    go_ret
    exact ⟨rfl, (Below.refl _ _).alloc (by simp) _⟩
  | node ps b cap A hp hl hc hS hA hB hps ih =>
    intro hsz w hk hw
    have HIH := hid ih
    have HA := hid hA
    have HB := hid hB
    have HK := hid hk
    have HPS := hid hps
    clear ih hA hB hk hps
    have hm : ps.length ≤ 9223372036854775807 := by unfold maxLen at hc; omega
    have HSZ := hid hsz
    have d0 : ((ps.length : Int) == 0) = false := beq_eq_false_iff_ne.2 (by omega)
    go_enter Tryd.func35, Tryd.ntmps35
    go_wp2_with fail
    go_loopw [3, 13] (fun v u wr => ∃ i : Nat, i ≤ ps.length ∧ u = .int .i64 (i : Int) ∧ v = .int .i64 (Tree.sizes (ps.take i) : Int) ∧ Below (w.heap.size + 1) (w.alloc (.cells #[.string ByteArray.empty, .slice (some ⟨b, 0, none⟩) ps.length cap] 45)) wr) (fun _ u _ => ps.length - (intOf u).toNat)
    case atStart => exact ⟨0, Nat.zero_le _, rfl, rfl, Below.refl _ _⟩
    case round =>
      obtain ⟨i, hi, rfl, rfl, hbel⟩ := hrel
      by_cases hlt : i < ps.length
      · have kb : Kept w0 wr := (HK.out.below ((Below.refl _ _).alloc (by simp) _) hw).below hbel (by omega)
        have kw : w0.heap.size ≤ wr.heap.size := by have := hbel.size; simp at this; omega
        have ca := kb.cell (HA.out i hlt)
        have cb := kb.cell (HB.out i hlt)
        obtain ⟨p, hp⟩ : ∃ p, ps[i]? = some p := ⟨ps[i], List.getElem?_eq_getElem hlt⟩
        have HP := hid hp
        have h1 := sizes_take ps i
        have h2 := size_part ps i p hp
        have HC := hid (fun W hk hs => HIH.out i p hp (by have := HSZ.out; simp only [Tree.size] at this; omega) W hk hs)
        have HKB := hid (fun o => kb.alloc kw o)
        have h3 : Tree.sizes ps ≤ 12000 := by have := HSZ.out; simpa only [Tree.size] using this
        clear hp kb hsz
        go_wp2_with (go_at_call 35; refine (HC.out _ (HKB.out _) (by simp; omega)).mono ?_; rintro e w1 ⟨rfl, hb1⟩)
        have h5 := sizes_snoc ps i p HP.out
        go_roundw
        case rel => exact ⟨i + 1, by omega, by go_num, by rw [h5]; go_num, (hbel.alloc (by have := hbel.size; simp at this; omega) _).trans (hb1.mono (by have := hbel.size; simp at this ⊢; omega))⟩
        case measure => simp [intOf]; omega
      · have hii : i = ps.length := by omega
        have HI := hid hii
        clear hii
        go_wp2_with fail
        go_ret
        refine ⟨ret_int (by rw [HI.out, List.take_length, Tree.size]), ?_⟩
        exact ((Below.refl _ _).alloc (by simp) _).trans (hbel.mono (by omega))
end Go.Proofs.YtfogjomebcponaaDoor
