/- Merged: HasS, SpecU, FreeP, HasT. -/
import Derived.Test.YtgogoekfidbpdaaDoorSQ0
import Derived.Test.YtgogoekfidbpdaaDoorSQ3
import Derived.Test.YtgogoekfidbpdaaDoorSQ8
namespace Go.Proofs.YtgogoekfidbpdaaDoor
open Go.RowKit

set_option maxRecDepth 100000 in
set_option maxHeartbeats 1000000 in
theorem l2Has_any (s : ByteArray) (l : List ByteArray) (p : Option Addr) (n c : Nat) (w : World) (hv : SV w p n c l) (hn : n ≤ 100000) :
    Calls Tryd.prog 38 #[.slice p n c, .string s] w fun e w' => e = .returned (.bool (hasB l s.toList)) ∧ w = w' := by
  have HV := hid hv
  have HL := hid hv.1
  clear hv
  go_enter Tryd.func38, Tryd.ntmps38
  go_wp2_with fail
  go_loop [5] (fun u => ∃ i : Nat, i ≤ n ∧ u = .int .i64 (i : Int) ∧ Hid (hasB l s.toList = hasB (l.drop i) s.toList)) (fun u => n - (intOf u).toNat)
  case atStart => exact ⟨0, Nat.zero_le _, rfl, by show _ = _; rw [List.drop_zero]⟩
  case round =>
    obtain ⟨i, hi, rfl, hd⟩ := hrel
    by_cases hlt : i < n
    · obtain ⟨x, hx⟩ : ∃ x, l[i]? = some x := ⟨_, List.getElem?_eq_getElem (by rw [HL.out]; exact hlt)⟩
      obtain ⟨g, rfl, hc⟩ := HV.out.2.2 i x hx
      have hs : hasB l s.toList = (x.toList == s.toList || hasB (l.drop (i + 1)) s.toList) := by rw [hd.out, drop_at hx, hasB_cons]
      cases hq : x.toList == s.toList with
      | true =>
        rw [hq, Bool.true_or] at hs
        have HS := hid hs
        clear hs hd hx
        go_wp2_with fail
        go_ret
        exact ⟨ret_bool HS.out.symm, rfl⟩
      | false =>
        rw [hq, Bool.false_or] at hs
        have HS := hid hs
        clear hs hd hx
        go_wp2_with fail
        go_round
        case rel => exact ⟨i + 1, by omega, by go_num, HS⟩
        case measure => simp [intOf]; omega
    · have hs : hasB l s.toList = false := by rw [hd.out, List.drop_of_length_le (by rw [HL.out]; omega)]; rfl
      have HS := hid hs
      clear hs hd
      go_wp2_with fail
      go_ret
      exact ⟨ret_bool HS.out.symm, rfl⟩

/-- What a function leaves that returns a list of texts of its own. -/
def OwnS (l : List ByteArray) (w : World) (e : Ending) (w' : World) : Prop :=
  ∃ q c, e = .returned (.slice q l.length c) ∧ w'.ownsRow w.heap.size 9 1 (.slice q l.length c) l.length (l.map Value.string) ∧ Below w.heap.size w w'
theorem own_empty (w : World) (base : Nat) (hb : base ≤ w.heap.size) : (w.alloc (.cells #[] 9)).ownsRow base 9 1 (.slice (some ⟨w.heap.size, 0, none⟩) 0 0) 0 [] := by
  have := World.ownsRow_made (w := w) (base := base) (e := 9) (size := 1) #[] 0 hb (by simp) (by simp)
  simpa using this

theorem OwnS.sv {l : List ByteArray} {w w' : World} {e : Ending} (h : OwnS l w e w') : ∃ q c, e = .returned (.slice q l.length c) ∧ SV w' q l.length c l ∧ Below w.heap.size w w' :=
  let ⟨q, c, he, ho, hb⟩ := h; ⟨q, c, he, sv_own ho, hb⟩
theorem OwnS.full {l : List ByteArray} {w w' : World} {e : Ending} (h : OwnS l w e w') : ∃ q c, e = .returned (.slice q l.length c) ∧ SV w' q l.length c l ∧ (∀ g o, q = some ⟨g, o, none⟩ → w.heap.size ≤ g ∧ g < w'.heap.size) ∧ Below w.heap.size w w' :=
  let ⟨q, c, he, ho, hb⟩ := h; ⟨q, c, he, sv_own ho, own_lt ho, hb⟩
end Go.Proofs.YtgogoekfidbpdaaDoor

namespace Go.Proofs.YtgogoekfidbpdaaDoor
open Go.RowKit

set_option maxRecDepth 100000 in
set_option maxHeartbeats 1000000 in
theorem l2With_any (l1 l2 : List ByteArray) (p1 p2 : Option Addr) (n1 n2 c1 c2 : Nat) (w : World) (h1 : SV w p1 n1 c1 l1) (h2 : SV w p2 n2 c2 l2) (hn1 : n1 ≤ 100000) (hn2 : n2 ≤ 100000) :
    Calls Tryd.prog 39 #[.slice p1 n1 c1, .slice p2 n2 c2] w (OwnS (l1 ++ l2) w) := by
  obtain ⟨i0, hi0, hz0, hz1, hz2⟩ := info_parts Tryd.infoStr
  have H1 := hid (h1.kept ((Kept.refl w).alloc (Nat.le_refl _) (.cells #[] 9)))
  have H2 := hid h2
  have L1 := hid h1.1
  have L2 := hid h2.1
  have HO := hid (own_empty w w.heap.size (Nat.le_refl _))
  clear h1 h2
  go_enter Tryd.func39, Tryd.ntmps39
  go_wp2_with (first | (at_builtin; have _ := HOx; refine wpList_append_sv _ rfl _ _ 24 rfl w.heap.size 9 i0 (.string ByteArray.empty) 16 Tryd.underlying24 hi0 hz0 hz1 hz2 rfl _ _ _ _ rfl HOx.out _ _ _ l2 rfl HS2.out (by unfold maxLen; omega) (by omega) (by have := HG1.out.size; simp at this; omega) ?_; intro q2 k2 w2 ho2 hg2; have HO2 := hid ho2; have HG2 := hid hg2; clear ho2 hg2) | (at_builtin; refine wpList_append_sv _ rfl _ _ 24 rfl w.heap.size 9 i0 (.string ByteArray.empty) 16 Tryd.underlying24 hi0 hz0 hz1 hz2 rfl _ _ _ _ rfl HO.out _ _ _ l1 rfl H1.out (by unfold maxLen; omega) (by omega) (by simp) ?_; intro q1 k1 w1 ho1 hg1; have hb1 := ((Below.refl w.heap.size w).alloc (Nat.le_refl _) (.cells #[] 9)).grown hg1 (by simp) (fun k e => (HO.out.lt k e).1); have HB1 := hid hb1; have HS2 := hid (H2.out.kept (Kept.of_below hb1 (Nat.le_refl _))); simp only [Nat.zero_add, List.nil_append] at ho1; have HOx := hid ho1; have HG1 := hid hg1; clear ho1 hg1 hb1))
  go_ret
  refine ⟨q2, k2, ?_, ?_, ?_⟩
  · rw [List.length_append, L1.out, L2.out]; simp
  · rw [List.length_append, L1.out, L2.out, List.map_append]; simpa using HO2.out
  · exact HB1.out.grown HG2.out HB1.out.size (fun k e => (HOx.out.lt k e).1)
end Go.Proofs.YtgogoekfidbpdaaDoor

namespace Go.Proofs.YtgogoekfidbpdaaDoor
open Go.RowKit

/-- What l2Free leaves: a list of the call's own, grown. -/
def FreePost (base : Nat) (v0 : Value) (L : List ByteArray) (w : World) (e : Ending) (w' : World) : Prop :=
  ∃ q c, e = .returned (.slice q L.length c) ∧ w'.ownsRow base 9 1 (.slice q L.length c) L.length (L.map Value.string) ∧ w.grownBy w' v0.ownBlock ∧
    ((Value.slice q L.length c).ownBlock = v0.ownBlock ∨ ∃ g, (Value.slice q L.length c).ownBlock = some g ∧ w.heap.size ≤ g)
theorem grow_chain {W0 wr w3 w4 : World} {r0 r : Option Nat} (h : W0.grownBy wr r0) (hb : Below wr.heap.size wr w3) (hg : w3.grownBy w4 r) (hr : r = r0 ∨ ∃ g, r = some g ∧ W0.heap.size ≤ g) : W0.grownBy w4 r0 := by
  refine ⟨hg.os.trans (hb.os.trans h.os), hg.tape.trans (hb.tape.trans h.tape), hg.output.trans (hb.output.trans h.output), Nat.le_trans h.size (Nat.le_trans hb.size hg.size), fun k hk hkr => ?_⟩
  have h1 := h.size
  have h2 := hb.size
  rw [hg.block k (by omega) ?_, hb.block k (by omega), h.block k hk hkr]
  rcases hr with e | ⟨g, e, hgl⟩
  · rw [e]; exact hkr
  · rw [e]; intro e2; have := Option.some.inj e2; omega
theorem SV.grown {w w' : World} {p : Option Addr} {n c : Nat} {l : List ByteArray} {r : Option Nat} (h : SV w p n c l) (hg : w.grownBy w' r) (hp : ∀ g o, p = some ⟨g, o, none⟩ → r ≠ some g) : SV w' p n c l :=
  ⟨h.1, h.2.1, fun i s hs => let ⟨g, e, hc⟩ := h.2.2 i s hs; ⟨g, e, (World.cell?_of_block (w := w) (a := ⟨g, i, none⟩) (hg.block g (World.block_lt_of_cell? w _ hc) (fun x => hp g 0 e x.symm))).trans hc⟩⟩
end Go.Proofs.YtgogoekfidbpdaaDoor

namespace Go.Proofs.YtgogoekfidbpdaaDoor
open Go.RowKit

set_option maxRecDepth 100000 in
set_option maxHeartbeats 1000000 in
theorem hasText_any (s : ByteArray) (l : List ByteArray) (p : Option Addr) (n c : Nat) (w : World) (hv : SV w p n c l) (hn : n ≤ 100000) :
    Calls Tryd.prog 9 #[.slice p n c, .string s] w fun e w' => e = .returned (.bool (hasB l s.toList)) ∧ w = w' := by
  have HV := hid hv
  have HL := hid hv.1
  clear hv
  go_enter Tryd.func9, Tryd.ntmps9
  go_wp2_with fail
  go_loop [5] (fun u => ∃ i : Nat, i ≤ n ∧ u = .int .i64 (i : Int) ∧ Hid (hasB l s.toList = hasB (l.drop i) s.toList)) (fun u => n - (intOf u).toNat)
  case atStart => exact ⟨0, Nat.zero_le _, rfl, by show _ = _; rw [List.drop_zero]⟩
  case round =>
    obtain ⟨i, hi, rfl, hd⟩ := hrel
    by_cases hlt : i < n
    · obtain ⟨x, hx⟩ : ∃ x, l[i]? = some x := ⟨_, List.getElem?_eq_getElem (by rw [HL.out]; exact hlt)⟩
      obtain ⟨g, rfl, hc⟩ := HV.out.2.2 i x hx
      have hs : hasB l s.toList = (x.toList == s.toList || hasB (l.drop (i + 1)) s.toList) := by rw [hd.out, drop_at hx, hasB_cons]
      cases hq : x.toList == s.toList with
      | true =>
        rw [hq, Bool.true_or] at hs
        have HS := hid hs
        clear hs hd hx
        go_wp2_with fail
        go_ret
        exact ⟨ret_bool HS.out.symm, rfl⟩
      | false =>
        rw [hq, Bool.false_or] at hs
        have HS := hid hs
        clear hs hd hx
        go_wp2_with fail
        go_round
        case rel => exact ⟨i + 1, by omega, by go_num, HS⟩
        case measure => simp [intOf]; omega
    · have hs : hasB l s.toList = false := by rw [hd.out, List.drop_of_length_le (by rw [HL.out]; omega)]; rfl
      have HS := hid hs
      clear hs hd
      go_wp2_with fail
      go_ret
      exact ⟨ret_bool HS.out.symm, rfl⟩

end Go.Proofs.YtgogoekfidbpdaaDoor
