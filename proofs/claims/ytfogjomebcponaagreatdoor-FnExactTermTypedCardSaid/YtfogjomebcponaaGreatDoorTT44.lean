/- Merged: TypeS, TypedP, TypedX. -/
import Derived.Test.YtfogjomebcponaaGreatDoorTT39
import Derived.Test.YtfogjomebcponaaGreatDoorTT26
import Derived.Test.YtfogjomebcponaaGreatDoorTT42
import Derived.Test.YtfogjomebcponaaGreatDoorTTSClosedS
import Derived.Test.YtfogjomebcponaaGreatDoorTT37
namespace Go.Proofs.YtfogjomebcponaaGreatDoor
open Go.RowKit

theorem sv_valsT {w : World} {g n c : Nat} {l : List ByteArray} (h : Vals w (some ⟨g, 0, none⟩) (l.map Value.string)) (hn : l.length = n) : SV w (some ⟨g, 0, none⟩) n c l :=
  ⟨hn, fun h => (by cases h), fun i s hs => by
    obtain ⟨b, o, e, hc⟩ := h i (.string s) (by simp [hs])
    simp only [Option.some.injEq, Addr.mk.injEq, and_true] at e
    obtain ⟨rfl, rfl⟩ := e
    rw [Nat.zero_add] at hc
    exact ⟨g, rfl, hc⟩⟩
theorem txtO_empty (o : Option Ty) : (txtO o).toList.isEmpty = !o.isSome := by
  cases o with
  | none => rw [txt_none]; rfl
  | some t =>
    have := ty_nil t
    rw [txtO]
    cases h : t.text.toList with
    | nil => exact absurd h this
    | cons => rfl

set_option maxRecDepth 100000 in
set_option maxHeartbeats 2000000 in
theorem specTermType_any (ns ts : List ByteArray) (s : ByteArray) (hs : s.size ≤ 400000000) (g h n m c d : Nat) (w : World) (hn : ns.length = n) (hm : ts.length = m) (hnb : n ≤ 400000000) (hmb : m ≤ 400000000) (hp : Vals w (some ⟨g, 0, none⟩) (ns.map Value.string)) (hq : Vals w (some ⟨h, 0, none⟩) (ts.map Value.string)) (hns : ∀ s ∈ ns, s.size ≤ 400000000) (hts : ∀ s ∈ ts, s.size ≤ 400000000) :
    Calls Tryz.prog 9 #[.slice (some ⟨g, 0, none⟩) n c, .slice (some ⟨h, 0, none⟩) m d, .string s] w (TypPost (typOf ns ts s) w) := by
  have HC := hid (fun W => l2Term_any s hs W)
  have HE := hid (fun W hp hq => specEnvValid_any ns ts (some ⟨g, 0, none⟩) (some ⟨h, 0, none⟩) n m c d W hn hm hnb hmb hp hq hns hts)
  have HP := hid hp
  have HQ := hid hq
  have HPS := hid (sv_valsT (c := c) hp hn)
  have HQS := hid (sv_valsT (c := d) hq hm)
  have HVE := hid (validB_env ns ts)
  cases ht : termTree s with
  | none =>
    have hr := termTree_none ht
    have HO := hid (show typOf ns ts s = none by unfold typOf; rw [hr]; cases envOf ns ts <;> rfl)
    have HT := hid ht
    rw [HO.out]
    clear ht hr hn hm hnb hmb hp hq hns hts
    go_enter Tryz.func9, Tryz.ntmps9
    go_wp2_with (go_at_call 25; refine (HC.out _).mono ?_; rintro e w1 hp; rw [HT.out] at hp; obtain ⟨pa, pp, pl, pc, rfl, hpl, hb1⟩ := hp.none; clear hp)
    go_ret2
    exact ⟨rfl, hb1.alloc hb1.size _⟩
  | some t =>
    obtain ⟨hpt, hso, hsz, mm, hmm, htm⟩ := termTree_some ht
    have HT := hid ht
    cases hv : envOf ns ts with
    | none =>
      have hvb : validB ns ts = false := by rw [← HVE.out, hv]; rfl
      rw [hvb] at HE
      have HO := hid (show typOf ns ts s = none by unfold typOf; rw [hv])
      rw [HO.out]
      clear ht hn hm hnb hmb hp hq hns hts hpt hso hmm htm hv hvb
      go_enter Tryz.func9, Tryz.ntmps9
      go_wp2_with (first
        | (go_at_call 26; have hb1a := hb1.alloc hb1.size (.cells #[.string pa, .slice pp pl pc] 43); have K1a := Kept.of_below hb1a (Nat.le_refl _); refine (HE.out _ (HP.out.kept K1a) (HQ.out.kept K1a)).mono ?_; rintro e w2 ⟨rfl, hb2⟩; have kc := cells_of_pair (block_below (heap_new w1 (.cells #[.string pa, .slice pp pl pc] 43) _ rfl) hb2 (by simp)); have hb12 := hb1a.trans (hb2.mono hb1a.size); have k12 : Kept w1 w2 := ((Kept.refl w1).alloc (Nat.le_refl _) _).below hb2 (by simp))
        | (go_at_call 25; refine (HC.out _).mono ?_; rintro e w1 hp; rw [HT.out] at hp; obtain ⟨pa, pp, pl, pc, rfl, hb1, htr⟩ := hp.some; clear hp))
      go_ret2
      exact ⟨rfl, hb12⟩
    | some l =>
      have hvb : validB ns ts = true := by rw [← HVE.out, hv]; rfl
      rw [hvb] at HE
      obtain ⟨hl1, hl2, hok, _, h8, hlen⟩ := envOf_parts hv
      have hnm : n = m := by rw [← hn, ← hm]; exact hlen
      have HO := hid (show typOf ns ts s = t.typ l.reverse by unfold typOf; rw [hv, hmm]; exact tm_typ t [] mm l.reverse htm)
      rw [HO.out]
      have hwt := parse_wt hpt
      have hokt := parse_ok hpt
      obtain ⟨J, hJ⟩ : ∃ J, t.typ l.reverse = J := ⟨_, rfl⟩
      have HTY := hid (fun (w0 : World) (S : Nat → Prop) (hh : Hd) (htt : TIn w0 S t hh) (W : World) (hk : Kept w0 W) (hsn : SV W (some ⟨g, 0, none⟩) n c ns) (hst : SV W (some ⟨h, 0, none⟩) m d ts) => (show Calls Tryz.prog 27 #[.agg #[.string hh.a, .slice hh.p hh.l hh.c], .slice (some ⟨g, 0, none⟩) n c, .slice (some ⟨h, 0, none⟩) m d] W fun e w' => e = .returned (.string (txtO J)) ∧ Below W.heap.size W w' from by
        rw [← hJ]
        subst hnm
        exact l3Type_any htt hwt hokt hso l.reverse ns ts _ _ n c d W hk hok (by rw [List.reverse_reverse, hl1]) (by rw [List.reverse_reverse, hl2]) hsn hst (by omega)))
      rw [hJ]
      have qe := txtO_empty J
      unfold TypPost
      generalize J.isSome = bb at qe ⊢
      generalize txtO J = r at HTY qe ⊢
      have qe2 : (!r.toList.isEmpty) = bb := by rw [qe]; simp
      clear ht hn hm hnb hmb hp hq hns hts hpt hso hmm htm hv hvb hl1 hl2 hok h8 hlen hnm hwt hokt hJ
      go_enter Tryz.func9, Tryz.ntmps9
      go_wp2_with (first
        | (go_at_call 27; have _ := hb2; refine (HTR.out _ k12 (HPS.out.kept (Kept.of_below hb12 (Nat.le_refl _))) (HQS.out.kept (Kept.of_below hb12 (Nat.le_refl _)))).mono ?_; rintro e w3 ⟨rfl, hb3⟩)
        | (go_at_call 26; have hb1a := hb1.alloc hb1.size (.cells #[.string pa, .slice pp pl pc] 43); have K1a := Kept.of_below hb1a (Nat.le_refl _); refine (HE.out _ (HP.out.kept K1a) (HQ.out.kept K1a)).mono ?_; rintro e w2 ⟨rfl, hb2⟩; have kc := cells_of_pair (block_below (heap_new w1 (.cells #[.string pa, .slice pp pl pc] 43) _ rfl) hb2 (by simp)); have hb12 := hb1a.trans (hb2.mono hb1a.size); have k12 : Kept w1 w2 := ((Kept.refl w1).alloc (Nat.le_refl _) _).below hb2 (by simp))
        | (go_at_call 25; refine (HC.out _).mono ?_; rintro e w1 hp; rw [HT.out] at hp; obtain ⟨pa, pp, pl, pc, rfl, hb1, htr⟩ := hp.some; have HTR := hid (fun W => HTY.out _ _ _ htr W); clear hp htr))
      go_ret2
      exact ⟨by simp, hb12.trans (hb3.mono hb12.size)⟩
end Go.Proofs.YtfogjomebcponaaGreatDoor

namespace Go.Proofs.YtfogjomebcponaaGreatDoor
open Go.RowKit

theorem sv_made (W : World) (g : Nat) : SV W (some ⟨g, 0, none⟩) 0 0 [] := ⟨rfl, fun h => (by cases h), fun i s h => (by simp at h)⟩

set_option maxRecDepth 100000 in
set_option maxHeartbeats 2000000 in
theorem specL3Closed_any (s : ByteArray) (hs : s.size ≤ 400000000) (w : World) : Calls Tryz.prog 32 #[.string s] w fun e w' => e = .returned (.string (txtO (typOf [] [] s))) ∧ Below w.heap.size w w' := by
  have HC := hid (fun W => l2Term_any s hs W)
  have henv : envOf [] [] = some [] := by unfold envOf; rw [if_pos ⟨rfl, by decide⟩]; rfl
  cases ht : termTree s with
  | none =>
    have hr := termTree_none ht
    have HO := hid (show typOf [] [] s = none by unfold typOf; rw [henv, hr])
    have HT := hid ht
    rw [HO.out]
    clear ht hr henv
    go_enter Tryz.func32, Tryz.ntmps32
    go_wp2_with (go_at_call 25; refine (HC.out _).mono ?_; rintro e w1 hp; rw [HT.out] at hp; obtain ⟨pa, pp, pl, pc, rfl, hpl, hb1⟩ := hp.none; clear hp)
    go_ret
    exact ⟨rfl, hb1.alloc hb1.size _⟩
  | some t =>
    obtain ⟨hpt, hso, hsz, mm, hmm, htm⟩ := termTree_some ht
    have HT := hid ht
    have hty : typOf [] [] s = t.typ [] := by unfold typOf; rw [henv, hmm]; exact tm_typ t [] mm [] htm
    have hwt := parse_wt hpt
    have hok := parse_ok hpt
    obtain ⟨J, hJ⟩ : ∃ J, t.typ [] = J := ⟨_, rfl⟩
    rw [hty, hJ]
    have HCL := hid (fun (w0 : World) (S : Nat → Prop) (h : Hd) (htt : TIn w0 S t h) (W : World) (hk : Kept w0 W) => l2Closed_any htt hwt hok hso W hk (kept_size hk))
    by_cases hf : (t.free []).length = 0
    · rw [decide_eq_true hf] at HCL
      have HTY := hid (fun (w0 : World) (S : Nat → Prop) (hh : Hd) (htt : TIn w0 S t hh) (W : World) (hk : Kept w0 W) (g1 g2 : Nat) => (show Calls Tryz.prog 27 #[.agg #[.string hh.a, .slice hh.p hh.l hh.c], .slice (some ⟨g1, 0, none⟩) 0 0, .slice (some ⟨g2, 0, none⟩) 0 0] W fun e w' => e = .returned (.string (txtO J)) ∧ Below W.heap.size W w' from by
        rw [← hJ]
        exact l3Type_any htt hwt hok hso [] [] [] _ _ 0 0 0 W hk (fun x hx => by cases hx) rfl rfl (sv_made W g1) (sv_made W g2) (by omega)))
      generalize txtO J = r at HTY ⊢
      clear ht hpt hso hmm htm hty hwt hok hJ hf henv
      go_enter Tryz.func32, Tryz.ntmps32
      go_wp2_with (first
        | (go_at_call 27; have _ := hb2; refine (HTR.out _ (((k12.alloc (kept_size k12) _)).alloc (by simp; have := kept_size k12; omega) _) _ _).mono ?_; rintro e w3 ⟨rfl, hb3⟩)
        | (go_at_call 33; have hb1a := hb1.alloc hb1.size (.cells #[.string pa, .slice pp pl pc] 43); refine (HCR.out _ ((Kept.refl _).alloc (Nat.le_refl _) _)).mono ?_; rintro e w2 ⟨rfl, hb2⟩; have hbx := block_below (heap_new w1 (.cells #[.string pa, .slice pp pl pc] 43) _ rfl) hb2 (by simp); have kc := cells_of_pair hbx; have hb12 := hb1a.trans (hb2.mono hb1a.size); have k12 : Kept w1 w2 := ((Kept.refl w1).alloc (Nat.le_refl _) _).below hb2 (by simp))
        | (go_at_call 25; refine (HC.out _).mono ?_; rintro e w1 hp; rw [HT.out] at hp; obtain ⟨pa, pp, pl, pc, rfl, hb1, htr⟩ := hp.some; have HTR := hid (fun W => HTY.out _ _ _ htr W); have HCR := hid (fun W => HCL.out _ _ _ htr W); clear hp htr))
      go_ret
      exact ⟨rfl, ((hb12.alloc hb12.size _).alloc (by simp; have := hb12.size; omega) _).trans (hb3.mono (by simp; have := hb12.size; omega))⟩
    · rw [decide_eq_false hf] at HCL
      have hJn : J = none := by
        cases hj : J with
        | none => rfl
        | some ty => rw [hj] at hJ; exact absurd (by rw [typ_free t [] [] ty hJ (fun x hx => by cases hx)]; rfl) hf
      rw [hJn]
      clear ht hpt hso hmm htm hty hwt hok hJ hf henv hJn
      go_enter Tryz.func32, Tryz.ntmps32
      go_wp2_with (first
        | (go_at_call 33; have hb1a := hb1.alloc hb1.size (.cells #[.string pa, .slice pp pl pc] 43); refine (HCR.out _ ((Kept.refl _).alloc (Nat.le_refl _) _)).mono ?_; rintro e w2 ⟨rfl, hb2⟩; have hb12 := hb1a.trans (hb2.mono hb1a.size))
        | (go_at_call 25; refine (HC.out _).mono ?_; rintro e w1 hp; rw [HT.out] at hp; obtain ⟨pa, pp, pl, pc, rfl, hb1, htr⟩ := hp.some; have HCR := hid (fun W => HCL.out _ _ _ htr W); clear hp htr))
      go_ret
      exact ⟨rfl, hb12⟩

set_option maxRecDepth 100000 in
set_option maxHeartbeats 1000000 in
theorem specTermTyped_any (s : ByteArray) (hs : s.size ≤ 400000000) (w : World) : Calls Tryz.prog 13 #[.string s] w fun e w' => e = .returned (.bool (typOf [] [] s).isSome) ∧ Below w.heap.size w w' := by
  have HC := hid (fun W => specL3Closed_any s hs W)
  have qe := txtO_empty (typOf [] [] s)
  generalize (typOf [] [] s).isSome = b at qe ⊢
  generalize txtO (typOf [] [] s) = r at HC qe
  have qe2 : (!r.toList.isEmpty) = b := by rw [qe]; simp
  go_enter Tryz.func13, Tryz.ntmps13
  go_wp2_with (go_at_call 32; refine (HC.out _).mono ?_; rintro e w1 ⟨rfl, hb1⟩)
  go_ret
  exact ⟨by simp, hb1⟩
end Go.Proofs.YtfogjomebcponaaGreatDoor

namespace Go.Proofs.YtfogjomebcponaaGreatDoor
open Go.RowKit

set_option maxHeartbeats 1000000 in
theorem lawTermTyped (s : ByteArray) (hs : s.size ≤ 9223372036854775807) (w : World) : Calls Tryz.prog 4 #[.string s] w fun e w' => e = .returned (.bool true) ∧ Below w.heap.size w w' := by
  by_cases h : s.size ≤ 1048576
  · have HA := hid (fun W => specTermTyped_any s (by omega) W)
    have HB := hid (fun W => implTermTyped_any s (by omega) W)
    generalize (typOf [] [] s).isSome = b at HA HB
    have hq : (b != b) = false := by simp
    go_enter Tryz.func4, Tryz.ntmps4
    go_wp2_with (first | (go_at_call 13; refine (HA.out _).mono ?_; rintro e w1 ⟨rfl, hb1⟩) | (go_at_call 14; refine (HB.out _).mono ?_; rintro e w2 ⟨rfl, hb2⟩))
    go_ret
    exact ⟨rfl, hb1.trans (hb2.mono hb1.size)⟩
  · have h2 : 1048576 < s.size := by omega
    clear h
    go_enter Tryz.func4, Tryz.ntmps4
    go_wp2
    go_ret
    exact ⟨rfl, Below.refl _ _⟩
end Go.Proofs.YtfogjomebcponaaGreatDoor
