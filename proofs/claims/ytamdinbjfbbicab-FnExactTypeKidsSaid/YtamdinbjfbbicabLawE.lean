/- The law of TypeKids, walked. -/
import Derived.Test.YtamdinbjfbbicabKids
namespace Go.Proofs.Ytamdinbjfbbicab
open Go.RowKit

set_option maxRecDepth 100000 in
theorem markStrings_nil (p : Option Addr) (c k : Nat) (w : World) :
    Calls Try.prog 16 #[.slice p 0 c, .int .i64 (k : Int)] w fun e w' => e = .returned (.int .i64 (k : Int)) ∧ Below w.heap.size w w' := by
  go_enter Try.func16, Try.ntmps16
  go_wp2_with fail
  refine wp_loop_rounds 1 ?_
  rw [rounds_succ]
  go_wp2_with fail
  go_ret
  exact ⟨rfl, Below.refl _ _⟩
/-- A row that is owned reads as its values. -/
theorem vals_map {w : World} {base : Nat} {e : TypeId} {q : Option Addr} {n c : Nat} {l : List Ty} (h : w.ownsRow base e 1 (.slice q n c) n (l.map fun t => Value.string t.text)) : Vals w q ((l.map Ty.text).map .string) := by
  have := vals_any h
  rw [List.map_map]; exact this
/-- What marking a result leaves. -/
def MarkPost (B n : Nat) (q : Option Addr) (w : World) (e : Ending) (w' : World) : Prop := e = .returned (.int .i64 ((1 : Int) + n)) ∧ Vals w' q (marks 1 n) ∧ Below B w w' ∧ (∀ b o, q = some ⟨b, o, none⟩ → b < w'.heap.size)
theorem mark_any {w : World} {B n c : Nat} {q : Option Addr} {xs : List Value} (hn : n ≤ 100) (hown : w.ownsRow B 9 1 (.slice q n c) n xs) (hB : B ≤ w.heap.size) : Calls Try.prog 16 #[.slice q n c, .int .i64 1] w (MarkPost B n q w) := by
  rcases hown.2 with ⟨hv, hn0⟩ | ⟨g, cap, cur, hv, hbg, hg, hnc, _⟩
  · subst hn0
    refine (markStrings_nil q c 1 w).mono ?_
    rintro e w' ⟨rfl, hb⟩
    refine ⟨rfl, fun i v h => by simp [marks] at h, hb.mono hB, ?_⟩
    intro b o e
    have : q = none := by simp at hv; exact hv.1
    rw [this] at e; cases e
  · obtain ⟨rfl, rfl⟩ : q = some ⟨g, 0, none⟩ ∧ c = cap := by simp at hv; exact hv
    refine (markStrings_own xs B g n c 1 w (by decide) (by omega) hown hB hbg).mono ?_
    rintro e w' ⟨rfl, hown', hb⟩
    refine ⟨rfl, vals_own hown', hb, ?_⟩
    intro b o e
    simp at e
    have := lt_of_block hg
    have := hb.size
    omega
theorem vals_below {w w' : World} {q : Option Addr} {l : List Value} {B : Nat} (h : Vals w q l) (hb : Below B w w') (hq : ∀ b o, q = some ⟨b, o, none⟩ → b < B) : Vals w' q l := fun i v hv =>
  let ⟨b, o, hp, hc⟩ := h i v hv
  ⟨b, o, hp, (hb.cell (p := ⟨b, o + i, none⟩) (hq b o hp)).trans hc⟩
theorem own_under {w : World} {base : Nat} {e : TypeId} {q : Option Addr} {n c : Nat} {xs : List Value} (h : w.ownsRow base e 1 (.slice q n c) n xs) : ∀ b o, q = some ⟨b, o, none⟩ → b < w.heap.size := by
  intro b o e
  rcases h.2 with ⟨hv, _⟩ | ⟨g, cap, cur, hv, hbg, hg, _⟩
  · have : q = none := by simp at hv; exact hv.1
    rw [this] at e; cases e
  · obtain ⟨rfl, _⟩ : q = some ⟨g, 0, none⟩ ∧ c = cap := by simp at hv; exact hv
    simp at e
    have := lt_of_block hg
    omega
theorem kidsO_small (o : Option Ty) : (kidsO o).length ≤ 2 := by
  cases o with
  | none => simp [kidsO]
  | some t => cases t <;> simp [kidsO, Ty.kids]

set_option maxRecDepth 100000 in
set_option maxHeartbeats 4000000 in
theorem lawTypeKids (s : ByteArray) (hs : s.size ≤ 9223372036854775807) (w : World) : Calls Try.prog 5 #[.string s] w fun e w' => e = .returned (.bool true) ∧ Below w.heap.size w w' := by
  by_cases h : s.size ≤ 1048576
  · have HA := hid (fun W => specTypeKids_any s (by omega) W)
    have HB := hid (fun W => implTypeKids_any s (by omega) W)
    have hk2 := kidsO_small (readTy s)
    obtain ⟨d, hd⟩ : ∃ d, (readTy s).isSome = d := ⟨_, rfl⟩
    obtain ⟨L, hL⟩ : ∃ L, kidsO (readTy s) = L := ⟨_, rfl⟩
    obtain ⟨n, hn⟩ : ∃ n, L.length = n := ⟨_, rfl⟩
    rw [hL, hn] at hk2
    have HN := hid hn
    have HP : Hid (∀ W e W', KidsPost (readTy s) W e W' → (∃ q c, e = .returned (.tuple #[.slice q n c, .bool d]) ∧ W'.ownsRow W.heap.size 9 1 (.slice q n c) n (L.map fun t => Value.string t.text)) ∧ Below W.heap.size W W') := by
      intro W e W' hp
      unfold KidsPost at hp
      rw [hL, hn, hd] at hp
      exact hp
    have HE : Hid (∀ (p q : Option Addr) (c c' : Nat) (W : World), Vals W p ((L.map Ty.text).map .string) → Vals W q ((L.map Ty.text).map .string) → Calls Try.prog 15 #[.slice p n c, .slice q n c'] W fun e w' => e = .returned (.bool true) ∧ Below W.heap.size W w') :=
      fun p q c c' W hp hq => eqStrings_same (L.map Ty.text) p q n c c' W (by simpa using hn) (by omega) hp hq
    clear hd hL hn
    go_enter Try.func5, Try.ntmps5
    have hq : (d != d) = false := by simp
    go_wp2_with (first
      | (go_at_call 17; have _ := V6; have s8 := hb7.size; refine (heldStrings_own q2 n c2 1 _ (by decide) (by omega) (vals_below V4.out ((hb5.trans (hb6.mono s5)).trans (hb7.mono (by omega))) hu4)).mono ?_; rintro e w8 ⟨rfl, hb8⟩)
      | (go_at_call 15; have _ := V6; refine (HE.out _ _ _ _ _ V6.out V1c.out).mono ?_; rintro e w7 ⟨rfl, hb7⟩)
      | (go_at_call 14; have _ := V4; refine (HB.out _).mono ?_; rintro e w6 hp; obtain ⟨⟨q6, c6, rfl, ho6⟩, hb6⟩ := HP.out _ _ _ hp; clear hp; have s6 := hb6.size; have V6 := hid (vals_map ho6); clear ho6; have V1c := hid (vals_below V1.out (hb2.trans ((hb3.mono s2).trans (hb4.trans ((hb5.mono (by omega)).trans (hb6.mono (by omega)))))) U1.out))
      | (go_at_call 17; refine (heldStrings_own q2 n c2 1 _ (by decide) (by omega) V4.out).mono ?_; rintro e w5 ⟨rfl, hb5⟩; have s5 := hb5.size)
      | (go_at_call 15; refine (HE.out _ _ _ _ _ V2.out V1b.out).mono ?_; rintro e w3 ⟨rfl, hb3⟩; have s3 := hb3.size)
      | (go_at_call 14; refine (HB.out _).mono ?_; rintro e w2 hp; obtain ⟨⟨q2, c2, rfl, ho2⟩, hb2⟩ := HP.out _ _ _ hp; clear hp; have s2 := hb2.size; have V2 := hid (vals_map ho2); have O2 := hid ho2; clear ho2; have V1b := hid (vals_below V1.out hb2 U1.out))
      | (go_at_call 16; refine (mark_any (by omega) (ownsRow_under O2.out hb3) (by omega)).mono ?_; rintro e w4 ⟨rfl, hv4, hb4, hu4⟩; have s4 := hb4.size; have V4 := hid hv4; clear hv4)
      | (go_at_call 13; refine (HA.out _).mono ?_; rintro e w1 hp; obtain ⟨⟨q1, c1, rfl, ho1⟩, hb1⟩ := HP.out _ _ _ hp; clear hp; have s1 := hb1.size; have V1 := hid (vals_map ho1); have U1 := hid (own_under ho1); clear ho1))
    go_ret
    have s7 := hb7.size
    exact ⟨rfl, hb1.trans ((hb2.mono (by omega)).trans ((hb3.mono (by omega)).trans ((hb4.mono (by omega)).trans ((hb5.mono (by omega)).trans ((hb6.mono (by omega)).trans ((hb7.mono (by omega)).trans (hb8.mono (by omega))))))))⟩
  · have h2 : 1048576 < s.size := by omega
    clear h
    go_enter Try.func5, Try.ntmps5
    go_wp2
    go_ret
    exact ⟨rfl, Below.refl _ _⟩
end Go.Proofs.Ytamdinbjfbbicab
