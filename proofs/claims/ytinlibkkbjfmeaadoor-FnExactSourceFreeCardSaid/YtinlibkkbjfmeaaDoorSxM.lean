/- The program reads a whole text as a source expression. -/
import Derived.Test.YtinlibkkbjfmeaaDoorSxL
namespace Go.Proofs.YtinlibkkbjfmeaaDoor
open Go.RowKit

set_option maxRecDepth 100000 in
set_option maxHeartbeats 4000000 in
theorem readSource_any (s : ByteArray) (hs : s.size ≤ 400000000) (w : World) : Calls Tryd.prog 17 #[.string s] w (X7Post (readSx s) w) := by
  have HC := hid (fun W => readPhrase_any s hs W)
  cases hp : parse s with
  | none =>
    have HP := hid hp
    have HR := hid (show readSx s = none by rw [readSx, hp])
    clear hp
    go_enter Tryd.func17, Tryd.ntmps17
    go_wp2_with (go_at_call 32; refine (HC.out _).mono ?_; rintro e w1 hp; rw [HP.out] at hp; obtain ⟨pa, pp, pl, pc, rfl, hpl, hb1⟩ := hp.none; clear hp)
    go_ret2
    rw [HR.out]
    exact x7_none (hb1.alloc hb1.size _)
  | some t =>
    have hwt := parse_wt hp
    have hwl := parse_small hp
    have hsz : t.size ≤ 12000 := Nat.le_trans (size_le_wt t) hwt
    have HP := hid hp
    have hR : readSx s = if t.size ≤ 150 then t.sx else none := by rw [readSx, hp]
    clear hp
    by_cases h150 : t.size ≤ 150
    · rw [if_pos h150] at hR
      cases hx : t.sx with
      | none =>
        have HR := hid (hR.trans hx)
        have HT := hid hx
        clear hx hR
        go_enter Tryd.func17, Tryd.ntmps17
        go_wp2_with (first | (go_at_call 32; refine (HC.out _).mono ?_; rintro e w1 hp; rw [HP.out] at hp; obtain ⟨pa, pp, pl, pc, rfl, hb1, ht⟩ := hp.some; clear hp; have HD := hid (fun W hk hs => atoms_any ht hsz W hk hs); have HE := hid (sourceOf_any ht hwt hwl); clear ht) | (go_at_call 33; refine (HD.out _ ((Kept.refl _).alloc (Nat.le_refl _) _) (by simp)).mono ?_; rintro e w2 ⟨rfl, hb2⟩; have k2 := cells_of_pair (block_below (heap_new w1 (.cells #[.string pa, .slice pp pl pc] 54) _ rfl) hb2 (by simp)); have s2 := hb2.size; simp at s2; have HK2 := hid (((Kept.refl w1).alloc (Nat.le_refl _) _).below hb2 (by simp))) | (go_at_call 34; refine (HE.out _ HK2.out (by omega)).mono ?_; rintro e w3 hp; rw [HT.out] at hp; obtain ⟨p1, rfl, hb3⟩ := hp.none; clear hp))
        go_ret2
        rw [HR.out]
        have s1 := hb1.size
        have hbw : Below w.heap.size w w3 := hb1.trans ((((Below.refl _ _).alloc (Nat.le_refl _) _).trans ((hb2.mono (by simp)).trans (hb3.mono (by omega)))).mono hb1.size)
        exact x7_none hbw
      | some m =>
        have HR := hid (hR.trans hx)
        have HT := hid hx
        clear hx hR
        go_enter Tryd.func17, Tryd.ntmps17
        go_wp2_with (first | (go_at_call 32; refine (HC.out _).mono ?_; rintro e w1 hp; rw [HP.out] at hp; obtain ⟨pa, pp, pl, pc, rfl, hb1, ht⟩ := hp.some; clear hp; have HD := hid (fun W hk hs => atoms_any ht hsz W hk hs); have HE := hid (sourceOf_any ht hwt hwl); clear ht) | (go_at_call 33; refine (HD.out _ ((Kept.refl _).alloc (Nat.le_refl _) _) (by simp)).mono ?_; rintro e w2 ⟨rfl, hb2⟩; have k2 := cells_of_pair (block_below (heap_new w1 (.cells #[.string pa, .slice pp pl pc] 54) _ rfl) hb2 (by simp)); have s2 := hb2.size; simp at s2; have HK2 := hid (((Kept.refl w1).alloc (Nat.le_refl _) _).below hb2 (by simp))) | (go_at_call 34; refine (HE.out _ HK2.out (by omega)).mono ?_; rintro e w3 hp; rw [HT.out] at hp; obtain ⟨a1, rfl, hb3, hn1⟩ := hp.some; clear hp))
        go_ret2
        rw [HR.out]
        have s1 := hb1.size
        have hbw : Below w.heap.size w w3 := hb1.trans ((((Below.refl _ _).alloc (Nat.le_refl _) _).trans ((hb2.mono (by simp)).trans (hb3.mono (by omega)))).mono hb1.size)
        exact x7_some hbw (hn1.wide (fun k hk => by omega))
    · rw [if_neg h150] at hR
      have HR := hid hR
      have h151 : 150 < t.size := by omega
      clear h150 hR
      go_enter Tryd.func17, Tryd.ntmps17
      go_wp2_with (first | (go_at_call 32; refine (HC.out _).mono ?_; rintro e w1 hp; rw [HP.out] at hp; obtain ⟨pa, pp, pl, pc, rfl, hb1, ht⟩ := hp.some; clear hp; have HD := hid (fun W hk hs => atoms_any ht hsz W hk hs); have HE := hid (sourceOf_any ht hwt hwl); clear ht) | (go_at_call 33; refine (HD.out _ ((Kept.refl _).alloc (Nat.le_refl _) _) (by simp)).mono ?_; rintro e w2 ⟨rfl, hb2⟩; have k2 := cells_of_pair (block_below (heap_new w1 (.cells #[.string pa, .slice pp pl pc] 54) _ rfl) hb2 (by simp)); have s2 := hb2.size; simp at s2; have HK2 := hid (((Kept.refl w1).alloc (Nat.le_refl _) _).below hb2 (by simp))))
      go_ret2
      rw [HR.out]
      exact x7_none (hb1.trans ((((Below.refl _ _).alloc (Nat.le_refl _) _).trans (hb2.mono (by simp))).mono hb1.size))
end Go.Proofs.YtinlibkkbjfmeaaDoor
