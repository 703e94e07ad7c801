/- A closed computation that is read: readClosed of the program. -/
import Derived.Test.YtiipofgnoabhoaaGreatDoorTu26
import Derived.Test.YtiipofgnoabhoaaGreatDoorTvFreeM
import Derived.Test.YtiipofgnoabhoaaGreatDoorTu28
namespace Go.Proofs.YtiipofgnoabhoaaGreatDoor
open Go.RowKit

/-- The closed computation that a text is. -/
def clC (s : ByteArray) : Option Tm := match readTm s with
  | some m => if m.isVal = false ∧ m.free = [] then some m else none
  | none => none

set_option maxRecDepth 100000 in
set_option maxHeartbeats 2000000 in
theorem readClosed_any (s : ByteArray) (hs : s.size ≤ 400000000) (w : World) : Calls Tryz.prog 90 #[.string s, .string strC, .slice none 0 0] w (TmPost (clC s) w) := by
  have HC := hid (fun W => readTermWithin_any s hs W)
  have q1 : (strV.toList == strC.toList) = false := by rw [Go.ByteArray.toList_eq, Go.ByteArray.toList_eq]; decide
  have q2 : (!strV.toList == strC.toList) = true := by rw [q1]; rfl
  have q3 : (strC.toList == strC.toList) = true := by simp
  have q4 : (!strC.toList == strC.toList) = false := by rw [q3]; rfl
  cases hr : readTm s with
  | none =>
    rw [hr] at HC
    rw [show clC s = none by rw [clC, hr]]
    clear hr
    go_enter Tryz.func90, Tryz.ntmps90
    go_wp2_with (go_at_call 111; refine (HC.out _).mono ?_; rintro e w1 hp; obtain ⟨rfl, hb1⟩ := hp.none; clear hp)
    go_ret2
    exact ⟨hb1, rfl⟩
  | some m =>
    rw [hr] at HC
    obtain ⟨_, _, _, _, hms⟩ := readTm_inv hr
    have HSO := hid (fun (W : World) (S : Nat → Prop) (a : Nat) (hn : NIn W S m a) => sort_node hn)
    have hcl : clC s = if m.isVal = false ∧ m.free = [] then some m else none := by rw [clC, hr]
    cases hv : m.isVal with
    | true =>
      rw [show clC s = none by rw [hcl, if_neg (fun h => by rw [hv] at h; cases h.1)]]
      rw [hv] at HSO
      simp only [vS] at HSO
      clear hr hv hms hcl
      go_enter Tryz.func90, Tryz.ntmps90
      go_wp2_with (first
        | (go_at_call 134; refine (HSO.out _ _ _ HN.out).mono ?_; rintro e w2 ⟨rfl, rfl⟩)
        | (go_at_call 111; refine (HC.out _).mono ?_; rintro e w1 hp; obtain ⟨a, rfl, hb1, hn1⟩ := hp.some; have HN := hid hn1; clear hp hn1))
      go_ret2
      exact ⟨hb1, rfl⟩
    | false =>
      rw [hv] at HSO
      simp only [vS] at HSO
      obtain ⟨n, hn⟩ : ∃ n, m.free.length = n := ⟨_, rfl⟩
      have HFR := hid (fun (W : World) (S : Nat → Prop) (a : Nat) (hna : NIn W S m a) => (show Calls Tryz.prog 135 #[.pointer (some ⟨a, 0, none⟩)] W fun e w' => ∃ q c, e = .returned (.slice q n c) ∧ Below W.heap.size W w' from (freeNames_any hna (by omega) W (Kept.refl _) (Nat.le_refl _)).mono fun e w' h => by
        obtain ⟨q, c, he, _, _, hb⟩ := h.full
        rw [hn] at he
        exact ⟨q, c, he, hb⟩))
      rcases Nat.eq_zero_or_pos n with h0 | h0
      · have hf : m.free = [] := List.length_eq_zero_iff.1 (hn.trans h0)
        subst h0
        rw [show clC s = some m by rw [hcl, if_pos ⟨hv, hf⟩]]
        clear hr hv hms hcl hf hn
        go_enter Tryz.func90, Tryz.ntmps90
        go_wp2_with (first
          | (go_at_call 135; refine (HFR.out _ _ _ HN.out).mono ?_; rintro e w3 ⟨q3, c3, rfl, hb3⟩)
          | (go_at_call 134; refine (HSO.out _ _ _ HN.out).mono ?_; rintro e w2 ⟨rfl, rfl⟩)
          | (go_at_call 111; refine (HC.out _).mono ?_; rintro e w1 hp; obtain ⟨a, rfl, hb1, hn1⟩ := hp.some; have HN := hid hn1; clear hp hn1))
        go_ret2
        exact ⟨hb1.trans (hb3.mono hb1.size), a, rfl, HN.out.keep (fun k _ hl => hb3.block k hl) (fun k hk _ => hk)⟩
      · have hf : m.free ≠ [] := fun h => by rw [h] at hn; simp at hn; omega
        rw [show clC s = none by rw [hcl, if_neg (fun h => hf h.2)]]
        clear hr hv hms hcl hf hn
        go_enter Tryz.func90, Tryz.ntmps90
        go_wp2_with (first
          | (go_at_call 135; refine (HFR.out _ _ _ HN.out).mono ?_; rintro e w3 ⟨q3, c3, rfl, hb3⟩)
          | (go_at_call 134; refine (HSO.out _ _ _ HN.out).mono ?_; rintro e w2 ⟨rfl, rfl⟩)
          | (go_at_call 111; refine (HC.out _).mono ?_; rintro e w1 hp; obtain ⟨a, rfl, hb1, hn1⟩ := hp.some; have HN := hid hn1; clear hp hn1))
        go_ret2
        exact ⟨hb1.trans (hb3.mono hb1.size), rfl⟩
end Go.Proofs.YtiipofgnoabhoaaGreatDoor
