/- Merged: WASMark, WA9. -/
import Derived.Deep.RegionWith
import Derived.Deep.QuietTactic
import Derived.BigQuiet
import Derived.Test.YthpcmglnooemaaaGreatDoorWA0
import Derived.Test.YthpcmglnooemaaaGreatDoorWA7
import Derived.Test.YthpcmglnooemaaaGreatDoorWASConcatP
namespace Go.Proofs.YthpcmglnooemaaaGreatDoor
open Go.RowKit

/-- A number's digits. -/
def digs (k : Nat) : List UInt8 := if k = 0 then [] else digs (k / 10) ++ [UInt8.ofNat (48 + k % 10)]
decreasing_by omega
theorem digs_length : ∀ k, (digs k).length ≤ k := by
  intro k
  induction k using Nat.strongRecOn with
  | _ k ih =>
    rw [digs]; split
    · simp
    · rename_i h
      have := ih (k / 10) (by omega)
      simp; omega
/-- The word that marks a cell. -/
def markS (k : Nat) : ByteArray := ⟨(109 :: digs k).toArray⟩

/-- One digit. -/
def dig1 (j : Nat) : ByteArray := strOfNums [48 + (j : Int) % 10]
theorem dig1_toList (j : Nat) : (dig1 j).toList = [UInt8.ofNat (48 + j % 10)] := by
  rw [Go.ByteArray.toList_eq, dig1, strOfNums_data]
  simp only [List.map_cons, List.map_nil, List.cons.injEq, and_true]
  congr 1
theorem dig1_size (j : Nat) : (dig1 j).size = 1 := by rw [dig1, strOfNums_size]; rfl
theorem conv_dig (j : Nat) (w : World) : (convert 22 9 (.slice (some ⟨w.heap.size, 0, none⟩) 1 1)).run Tryz.prog (w.alloc (.cells #[.int .u8 (48 + (j : Int) % 10)] 5)) = .ok (.string (dig1 j)) (w.alloc (.cells #[.int .u8 (48 + (j : Int) % 10)] 5)) :=
  run_convert_bytes_arg _ 22 5 Tryz.underlying22 Tryz.underlying5 w.heap.size 0 1 1 [48 + (j : Int) % 10] rfl (by
    intro i hi
    obtain rfl : i = 0 := by omega
    simp) 9 Tryz.underlying9

set_option maxRecDepth 100000 in
set_option maxHeartbeats 1000000 in
theorem markText_any (k : Nat) (hk : 0 < k) (hk2 : k ≤ 100000000) (w : World) : Calls Tryz.prog 65 #[.int .i64 (k : Int)] w fun e w' => e = .returned (.string (markS k)) ∧ Below w.heap.size w w' := by
  go_enter Tryz.func65, Tryz.ntmps65
  go_wp2_with fail
  go_loopw [0, 3] (fun u v wr => ∃ (j : Nat) (o : ByteArray), u = .int .i64 (j : Int) ∧ v = .string o ∧ j ≤ k ∧ o.size ≤ k ∧ Hid (digs j ++ o.toList = digs k) ∧ Below w.heap.size w wr) (fun u _ _ => (intOf u).toNat)
  case atStart => exact ⟨k, ByteArray.empty, rfl, rfl, Nat.le_refl _, Nat.zero_le _, hid (by rw [empty_toList]; simp), Below.refl _ _⟩
  case round =>
    obtain ⟨j, o, rfl, rfl, hj, ho, hdig, hbel⟩ := hrel
    by_cases hlt : 0 < j
    · have hcv := conv_dig j wr
      have hsz : (dig1 j).size = 1 := dig1_size j
      go_wp2_with fail
      go_roundw
      case rel =>
        have h1 : digs j = digs (j / 10) ++ [UInt8.ofNat (48 + j % 10)] := by rw [digs, if_neg (by omega)]
        have h2 : digs (j / 10) ++ (dig1 j ++ o).toList = digs k := by rw [← hdig.out, h1, append_toList, dig1_toList]; simp
        have h3 : (dig1 j ++ o).size ≤ k := by
          have := congrArg List.length h2
          rw [List.length_append, Go.ByteArray.toList_eq] at this
          have := digs_length k
          simp at *; omega
        exact ⟨j / 10, dig1 j ++ o, by go_num, rfl, by omega, h3, hid h2, hbel.alloc hbel.size _⟩
      case measure => simp [intOf]; omega
    · obtain rfl : j = 0 := by omega
      go_wp2_with fail
      go_ret
      refine ⟨ret_str ?_, hbel⟩
      have := hdig.out
      rw [digs, if_pos rfl, List.nil_append] at this
      rw [bytes_of_toList this, markS]
      apply ByteArray.ext
      simp
/-- The words that mark n cells. -/
def marks (k n : Nat) : List Value := (List.range n).map fun i => .string (markS (k + i))
theorem marks_length (k n : Nat) : (marks k n).length = n := by simp [marks]
theorem marks_get (k n i : Nat) (h : i < n) : (marks k n)[i]? = some (.string (markS (k + i))) := by simp [marks, h]
theorem marks_set (k i : Nat) (xs : List Value) (h : i < xs.length) : (marks k i ++ xs.drop i).set i (.string (markS (k + i))) = marks k (i + 1) ++ xs.drop (i + 1) := by
  rw [List.set_append_right _ _ (by rw [marks_length]; exact Nat.le_refl _), marks_length, Nat.sub_self, List.drop_eq_getElem_cons h, List.set_cons_zero]
  simp [marks, List.range_succ]
set_option maxRecDepth 100000 in
set_option maxHeartbeats 1000000 in
theorem markStrings_own (xs : List Value) (B g n c k : Nat) (w : World) (hk : 0 < k) (hnk : k + n ≤ 1000000) (hown : w.ownsRow B 9 1 (.slice (some ⟨g, 0, none⟩) n c) n xs) (hB : B ≤ w.heap.size) (hBg : B ≤ g) :
    Calls Tryz.prog 38 #[.slice (some ⟨g, 0, none⟩) n c, .int .i64 (k : Int)] w fun e w' => e = .returned (.int .i64 ((k : Int) + n)) ∧ w'.ownsRow B 9 1 (.slice (some ⟨g, 0, none⟩) n c) n (marks k n) ∧ Below B w w' := by
  have hlen : xs.length = n := by have := hown.1; omega
  have HLEN := hid hlen
  have HOWN := hid hown
  clear hown hlen
  go_enter Tryz.func38, Tryz.ntmps38
  go_wp2_with fail
  go_loopw [1, 5] (fun v u wr => ∃ i : Nat, i ≤ n ∧ u = .int .i64 (i : Int) ∧ v = .int .i64 ((k : Int) + i) ∧ wr.ownsRow B 9 1 (.slice (some ⟨g, 0, none⟩) n c) n (marks k i ++ xs.drop i) ∧ Below B w wr) (fun _ u _ => n - (intOf u).toNat)
  case atStart => exact ⟨0, Nat.zero_le _, rfl, by simp, by simpa [marks] using HOWN.out, Below.refl _ _⟩
  case round =>
    obtain ⟨i, hi, rfl, rfl, hown, hbel⟩ := hrel
    have HO := hid hown
    have hz := hbel.size
    clear hown
    by_cases hlt : i < n
    · have HC := hid (markText_any (k + i) (by omega) (by omega) wr)
      rw [Int.natCast_add] at HC
      obtain ⟨x, hx⟩ : ∃ x, xs[i]? = some x := ⟨_, List.getElem?_eq_getElem (by rw [HLEN.out]; exact hlt)⟩
      have HX := hid hx
      clear hx
      go_wp2_with (go_at_call 65; refine HC.out.mono ?_; rintro e w1 ⟨rfl, hb1⟩; have own1 := ownsRow_under HO.out (hb1.mono (by omega)); have hcc := own1.cellAt i (by omega); have hff := own1.frozenAt i; have HO1 := hid own1; clear own1; rw [List.getElem?_append_right (by rw [marks_length]; exact Nat.le_refl _), marks_length, Nat.sub_self, List.getElem?_drop, Nat.add_zero, HX.out] at hcc)
      go_roundw
      case rel =>
        have hset := marks_set k i xs (by rw [HLEN.out]; exact hlt)
        refine ⟨i + 1, by omega, by go_num, by go_num, ?_, (hbel.trans (hb1.mono (by omega))).setCell hBg _⟩
        rw [← hset]
        exact (HO1.out.stored i _).1
      case measure => simp [intOf]; omega
    · have hin : i = n := by omega
      subst hin
      go_wp2_with fail
      go_ret
      refine ⟨rfl, ?_, hbel⟩
      have := HO.out
      rwa [List.drop_of_length_le (Nat.le_of_eq HLEN.out), List.append_nil] at this
set_option maxRecDepth 100000 in
set_option maxHeartbeats 2000000 in
theorem heldStrings_own (p : Option Addr) (n c k : Nat) (w : World) (hk : 0 < k) (hnk : k + n ≤ 1000000) (hv : Vals w p (marks k n)) :
    Calls Tryz.prog 39 #[.slice p n c, .int .i64 (k : Int)] w fun e w' => e = .returned (.int .i64 ((k : Int) + n)) ∧ Below w.heap.size w w' := by
  have HV := hid hv
  clear hv
  go_enter Tryz.func39, Tryz.ntmps39
  go_wp2_with fail
  go_loopw [1, 5] (fun v u wr => ∃ i : Nat, i ≤ n ∧ u = .int .i64 (i : Int) ∧ v = .int .i64 ((k : Int) + i) ∧ Below w.heap.size w wr) (fun _ u _ => n - (intOf u).toNat)
  case atStart => exact ⟨0, Nat.zero_le _, rfl, by simp, Below.refl _ _⟩
  case round =>
    obtain ⟨i, hi, rfl, rfl, hbel⟩ := hrel
    have hz := hbel.size
    by_cases hlt : i < n
    · have HC := hid (fun W => markText_any (k + i) (by omega) (by omega) W)
      obtain ⟨b, o, rfl, hc⟩ := HV.out i _ (marks_get k n i hlt)
      have hbl := World.block_lt_of_cell? w _ hc
      have hcw : wr.cell? ⟨b, o + i, none⟩ = some (.string (markS (k + i))) := (hbel.cell (p := ⟨b, o + i, none⟩) hbl).trans hc
      have hcb : b < wr.heap.size := by simp at hbl; omega
      have HCW := hid hcw
      rw [Int.natCast_add] at HC
      clear hc hbl
      go_wp2_with fail
      go_region_with (go_at_call 65; refine (HC.out _).mono ?_; rintro e w1 ⟨rfl, hb1⟩; have hcc := (hb1.cell (p := ⟨b, o + i, none⟩) (by simp; omega)).trans hcw)
      all_goals
        go_wp2_with fail
        go_roundw
        case rel => exact ⟨i + 1, by omega, by go_num, by go_num, hbel.drew.trans (hb1.mono hz)⟩
        case measure => simp [intOf]; omega
    · have hin : i = n := by omega
      subst hin
      go_wp2_with fail
      go_ret
      exact ⟨rfl, hbel⟩


set_option maxRecDepth 100000 in
set_option maxHeartbeats 1000000 in
theorem l2Has_any (s : ByteArray) (l : List ByteArray) (p : Option Addr) (n c : Nat) (w : World) (hv : SV w p n c l) (hn : n ≤ 100000) :
    Calls Tryz.prog 84 #[.slice p n c, .string s] w fun e w' => e = .returned (.bool (hasB l s.toList)) ∧ w = w' := by
  have HV := hid hv
  have HL := hid hv.1
  clear hv
  go_enter Tryz.func84, Tryz.ntmps84
  go_wp2_with fail
  go_loop [5] (fun u => ∃ i : Nat, i ≤ n ∧ u = .int .i64 (i : Int) ∧ Hid (hasB l s.toList = hasB (l.drop i) s.toList)) (fun u => n - (intOf u).toNat)
  case atStart => exact ⟨0, Nat.zero_le _, rfl, by show _ = _; rw [List.drop_zero]⟩
  case round =>
    obtain ⟨i, hi, rfl, hd⟩ := hrel
    by_cases hlt : i < n
    · obtain ⟨x, hx⟩ : ∃ x, l[i]? = some x := ⟨_, List.getElem?_eq_getElem (by rw [HL.out]; exact hlt)⟩
      obtain ⟨g, rfl, hc⟩ := HV.out.2.2 i x hx
      have hs : hasB l s.toList = (x.toList == s.toList || hasB (l.drop (i + 1)) s.toList) := by rw [hd.out, drop_at hx, hasB_cons]
      cases hq : x.toList == s.toList with
      | true =>
        rw [hq, Bool.true_or] at hs
        have HS := hid hs
        clear hs hd hx
        go_wp2_with fail
        go_ret
        exact ⟨ret_bool HS.out.symm, rfl⟩
      | false =>
        rw [hq, Bool.false_or] at hs
        have HS := hid hs
        clear hs hd hx
        go_wp2_with fail
        go_round
        case rel => exact ⟨i + 1, by omega, by go_num, HS⟩
        case measure => simp [intOf]; omega
    · have hs : hasB l s.toList = false := by rw [hd.out, List.drop_of_length_le (by rw [HL.out]; omega)]; rfl
      have HS := hid hs
      clear hs hd
      go_wp2_with fail
      go_ret
      exact ⟨ret_bool HS.out.symm, rfl⟩

/-- What a function leaves that returns a list of texts of its own. -/
def OwnS (l : List ByteArray) (w : World) (e : Ending) (w' : World) : Prop :=
  ∃ q c, e = .returned (.slice q l.length c) ∧ w'.ownsRow w.heap.size 9 1 (.slice q l.length c) l.length (l.map Value.string) ∧ Below w.heap.size w w'
theorem own_empty (w : World) (base : Nat) (hb : base ≤ w.heap.size) : (w.alloc (.cells #[] 9)).ownsRow base 9 1 (.slice (some ⟨w.heap.size, 0, none⟩) 0 0) 0 [] := by
  have := World.ownsRow_made (w := w) (base := base) (e := 9) (size := 1) #[] 0 hb (by simp) (by simp)
  simpa using this

theorem OwnS.sv {l : List ByteArray} {w w' : World} {e : Ending} (h : OwnS l w e w') : ∃ q c, e = .returned (.slice q l.length c) ∧ SV w' q l.length c l ∧ Below w.heap.size w w' :=
  let ⟨q, c, he, ho, hb⟩ := h; ⟨q, c, he, sv_own ho, hb⟩
theorem OwnS.full {l : List ByteArray} {w w' : World} {e : Ending} (h : OwnS l w e w') : ∃ q c, e = .returned (.slice q l.length c) ∧ SV w' q l.length c l ∧ (∀ g o, q = some ⟨g, o, none⟩ → w.heap.size ≤ g ∧ g < w'.heap.size) ∧ Below w.heap.size w w' :=
  let ⟨q, c, he, ho, hb⟩ := h; ⟨q, c, he, sv_own ho, own_lt ho, hb⟩
end Go.Proofs.YthpcmglnooemaaaGreatDoor

namespace Go.Proofs.YthpcmglnooemaaaGreatDoor
open Go.RowKit

set_option maxRecDepth 100000 in
set_option maxHeartbeats 1000000 in
theorem l2With_any (l1 l2 : List ByteArray) (p1 p2 : Option Addr) (n1 n2 c1 c2 : Nat) (w : World) (h1 : SV w p1 n1 c1 l1) (h2 : SV w p2 n2 c2 l2) (hn1 : n1 ≤ 100000) (hn2 : n2 ≤ 100000) :
    Calls Tryz.prog 85 #[.slice p1 n1 c1, .slice p2 n2 c2] w (OwnS (l1 ++ l2) w) := by
  obtain ⟨i0, hi0, hz0, hz1, hz2⟩ := info_parts Tryz.infoStr
  have H1 := hid (h1.kept ((Kept.refl w).alloc (Nat.le_refl _) (.cells #[] 9)))
  have H2 := hid h2
  have L1 := hid h1.1
  have L2 := hid h2.1
  have HO := hid (own_empty w w.heap.size (Nat.le_refl _))
  clear h1 h2
  go_enter Tryz.func85, Tryz.ntmps85
  go_wp2_with (first | (at_builtin; have _ := HOx; refine wpList_append_sv _ rfl _ _ 25 rfl w.heap.size 9 i0 (.string ByteArray.empty) 16 Tryz.underlying25 hi0 hz0 hz1 hz2 rfl _ _ _ _ rfl HOx.out _ _ _ l2 rfl HS2.out (by unfold maxLen; omega) (by omega) (by have := HG1.out.size; simp at this; omega) ?_; intro q2 k2 w2 ho2 hg2; have HO2 := hid ho2; have HG2 := hid hg2; clear ho2 hg2) | (at_builtin; refine wpList_append_sv _ rfl _ _ 25 rfl w.heap.size 9 i0 (.string ByteArray.empty) 16 Tryz.underlying25 hi0 hz0 hz1 hz2 rfl _ _ _ _ rfl HO.out _ _ _ l1 rfl H1.out (by unfold maxLen; omega) (by omega) (by simp) ?_; intro q1 k1 w1 ho1 hg1; have hb1 := ((Below.refl w.heap.size w).alloc (Nat.le_refl _) (.cells #[] 9)).grown hg1 (by simp) (fun k e => (HO.out.lt k e).1); have HB1 := hid hb1; have HS2 := hid (H2.out.kept (Kept.of_below hb1 (Nat.le_refl _))); simp only [Nat.zero_add, List.nil_append] at ho1; have HOx := hid ho1; have HG1 := hid hg1; clear ho1 hg1 hb1))
  go_ret
  refine ⟨q2, k2, ?_, ?_, ?_⟩
  · rw [List.length_append, L1.out, L2.out]; simp
  · rw [List.length_append, L1.out, L2.out, List.map_append]; simpa using HO2.out
  · exact HB1.out.grown HG2.out HB1.out.size (fun k e => (HOx.out.lt k e).1)
end Go.Proofs.YthpcmglnooemaaaGreatDoor

namespace Go.Proofs.YthpcmglnooemaaaGreatDoor
open Go.RowKit

/-- What l2Free leaves: a list of the call's own, grown. -/
def FreePost (base : Nat) (v0 : Value) (L : List ByteArray) (w : World) (e : Ending) (w' : World) : Prop :=
  ∃ q c, e = .returned (.slice q L.length c) ∧ w'.ownsRow base 9 1 (.slice q L.length c) L.length (L.map Value.string) ∧ w.grownBy w' v0.ownBlock ∧
    ((Value.slice q L.length c).ownBlock = v0.ownBlock ∨ ∃ g, (Value.slice q L.length c).ownBlock = some g ∧ w.heap.size ≤ g)
theorem grow_chain {W0 wr w3 w4 : World} {r0 r : Option Nat} (h : W0.grownBy wr r0) (hb : Below wr.heap.size wr w3) (hg : w3.grownBy w4 r) (hr : r = r0 ∨ ∃ g, r = some g ∧ W0.heap.size ≤ g) : W0.grownBy w4 r0 := by
  refine ⟨hg.os.trans (hb.os.trans h.os), hg.tape.trans (hb.tape.trans h.tape), hg.output.trans (hb.output.trans h.output), Nat.le_trans h.size (Nat.le_trans hb.size hg.size), fun k hk hkr => ?_⟩
  have h1 := h.size
  have h2 := hb.size
  rw [hg.block k (by omega) ?_, hb.block k (by omega), h.block k hk hkr]
  rcases hr with e | ⟨g, e, hgl⟩
  · rw [e]; exact hkr
  · rw [e]; intro e2; have := Option.some.inj e2; omega
theorem SV.grown {w w' : World} {p : Option Addr} {n c : Nat} {l : List ByteArray} {r : Option Nat} (h : SV w p n c l) (hg : w.grownBy w' r) (hp : ∀ g o, p = some ⟨g, o, none⟩ → r ≠ some g) : SV w' p n c l :=
  ⟨h.1, h.2.1, fun i s hs => let ⟨g, e, hc⟩ := h.2.2 i s hs; ⟨g, e, (World.cell?_of_block (w := w) (a := ⟨g, i, none⟩) (hg.block g (World.block_lt_of_cell? w _ hc) (fun x => hp g 0 e x.symm))).trans hc⟩⟩
end Go.Proofs.YthpcmglnooemaaaGreatDoor

namespace Go.Proofs.YthpcmglnooemaaaGreatDoor
open Go.RowKit

set_option maxRecDepth 100000 in
set_option maxHeartbeats 1000000 in
theorem hasText_any (s : ByteArray) (l : List ByteArray) (p : Option Addr) (n c : Nat) (w : World) (hv : SV w p n c l) (hn : n ≤ 100000) :
    Calls Tryz.prog 24 #[.slice p n c, .string s] w fun e w' => e = .returned (.bool (hasB l s.toList)) ∧ w = w' := by
  have HV := hid hv
  have HL := hid hv.1
  clear hv
  go_enter Tryz.func24, Tryz.ntmps24
  go_wp2_with fail
  go_loop [5] (fun u => ∃ i : Nat, i ≤ n ∧ u = .int .i64 (i : Int) ∧ Hid (hasB l s.toList = hasB (l.drop i) s.toList)) (fun u => n - (intOf u).toNat)
  case atStart => exact ⟨0, Nat.zero_le _, rfl, by show _ = _; rw [List.drop_zero]⟩
  case round =>
    obtain ⟨i, hi, rfl, hd⟩ := hrel
    by_cases hlt : i < n
    · obtain ⟨x, hx⟩ : ∃ x, l[i]? = some x := ⟨_, List.getElem?_eq_getElem (by rw [HL.out]; exact hlt)⟩
      obtain ⟨g, rfl, hc⟩ := HV.out.2.2 i x hx
      have hs : hasB l s.toList = (x.toList == s.toList || hasB (l.drop (i + 1)) s.toList) := by rw [hd.out, drop_at hx, hasB_cons]
      cases hq : x.toList == s.toList with
      | true =>
        rw [hq, Bool.true_or] at hs
        have HS := hid hs
        clear hs hd hx
        go_wp2_with fail
        go_ret
        exact ⟨ret_bool HS.out.symm, rfl⟩
      | false =>
        rw [hq, Bool.false_or] at hs
        have HS := hid hs
        clear hs hd hx
        go_wp2_with fail
        go_round
        case rel => exact ⟨i + 1, by omega, by go_num, HS⟩
        case measure => simp [intOf]; omega
    · have hs : hasB l s.toList = false := by rw [hd.out, List.drop_of_length_le (by rw [HL.out]; omega)]; rfl
      have HS := hid hs
      clear hs hd
      go_wp2_with fail
      go_ret
      exact ⟨ret_bool HS.out.symm, rfl⟩


end Go.Proofs.YthpcmglnooemaaaGreatDoor
