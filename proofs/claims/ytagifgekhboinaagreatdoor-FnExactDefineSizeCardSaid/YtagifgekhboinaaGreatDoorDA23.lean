/- Merged: Concat, Node, Build, AddT, AddK0. -/
import Derived.Lib.AppendZeros
import Derived.Laws.OwnMore
import Derived.Test.YtagifgekhboinaaGreatDoorDA18
import Derived.Test.YtagifgekhboinaaGreatDoorDASConcatP
import Derived.Test.YtagifgekhboinaaGreatDoorDASNames
import Derived.Test.YtagifgekhboinaaGreatDoorDASSvP
import Derived.Test.YtagifgekhboinaaGreatDoorDA9
import Derived.Deep.RegionWith
import Derived.Test.YtagifgekhboinaaGreatDoorDASContS
namespace Go.Proofs.YtagifgekhboinaaGreatDoor
open Go.RowKit

set_option maxRecDepth 100000 in
set_option maxHeartbeats 1000000 in
theorem growNil_any (n : Nat) (hn : n ≤ 1000000) (w : World) : Calls Tryz.prog 142 #[.slice none 0 0, .int .i64 (n : Int)] w fun e w' => ∃ q c, e = .returned (.slice q 0 c) ∧ w'.ownsRow w.heap.size 9 1 (.slice q 0 c) 0 [] ∧ Below w.heap.size w w' := by
  obtain ⟨i0, hi0, hz0, hz1, hz2⟩ := info_parts Tryz.infoStr
  by_cases h0 : n = 0
  · subst h0
    go_enter Tryz.func142, Tryz.ntmps142
    go_wp2_with fail
    go_ret
    exact ⟨none, 0, rfl, World.ownsRow_nil _ _ _ _, Below.refl _ _⟩
  · have hp : 0 < n := by omega
    have hr := fun ty W => Go.Lib.run_append_nil_zeros (P := Tryz.prog) W 60 3 ty 9 i0 (.string ByteArray.empty) .i64 .i64 Tryz.underlying60 Tryz.underlying3 hi0 hz0 n hp (by omega) (by omega) (by rw [hz2]; omega)
    have hge := grownCap_ge w n 0 9
    have hle := grownCap_le_maxLen w n 0 9 (by unfold maxLen; omega)
    unfold maxLen at hle
    go_enter Tryz.func142, Tryz.ntmps142
    go_wp2_with (at_builtin; refine Go.Lib.wpList_append_run w rfl _ _ _ _ rfl _ _ rfl rfl _ _ (hr _ _) ?_)
    go_ret
    refine ⟨some ⟨w.heap.size, 0, none⟩, _, rfl, ⟨rfl, Or.inr ⟨w.heap.size, _, _, rfl, Nat.le_refl _, heap_new _ _ _ (by simp), Nat.zero_le _, by unfold maxLen; exact hle, ?_, by simp⟩⟩, ?_⟩
    · rw [Array.size_append, zeroCells_size _ _ rfl, zeroCells_size _ _ rfl]; omega
    · exact ((Below.refl _ _).drew).alloc (by simp) _

set_option maxRecDepth 100000 in
set_option maxHeartbeats 2000000 in
/-- slices.Concat at two lists of texts. -/
theorem concat_two (g c : Nat) (p1 p2 : Option Addr) (n1 n2 c1 c2 : Nat) (l1 l2 : List ByteArray) (w : World) (h1 : SV w p1 n1 c1 l1) (h2 : SV w p2 n2 c2 l2) (hn1 : n1 ≤ 100000) (hn2 : n2 ≤ 100000)
    (hc0 : w.cell? ⟨g, 0, none⟩ = some (.slice p1 n1 c1)) (hc1 : w.cell? ⟨g, 1, none⟩ = some (.slice p2 n2 c2)) :
    Calls Tryz.prog 126 #[.slice (some ⟨g, 0, none⟩) 2 c] w fun e w' => ∃ q kc, e = .returned (.slice q (n1 + n2) kc) ∧ w'.ownsRow w.heap.size 9 1 (.slice q (n1 + n2) kc) (n1 + n2) ((l1 ++ l2).map Value.string) ∧ Below w.heap.size w w' := by
  have H1 := hid h1
  have H2 := hid h2
  have HC0 := hid hc0
  have HC1 := hid hc1
  have HG := hid (fun n (hn : n ≤ 1000000) W => growNil_any n hn W)
  obtain ⟨i0, hi0, hz0, hz1, hz2⟩ := info_parts Tryz.infoStr
  clear h1 h2
  go_enter Tryz.func126, Tryz.ntmps126
  go_wp2_with fail
  go_loop [3, 11] (fun v u => (u = .int .i64 0 ∧ v = .int .i64 0) ∨ (u = .int .i64 1 ∧ v = .int .i64 (n1 : Int)) ∨ (u = .int .i64 2 ∧ v = .int .i64 ((n1 : Int) + n2))) (fun _ u => (2 - intOf u).toNat)
  case atStart => exact Or.inl ⟨rfl, rfl⟩
  case round =>
    rcases hrel with ⟨rfl, rfl⟩ | ⟨rfl, rfl⟩ | ⟨rfl, rfl⟩
    · go_wp2_with fail
      go_round
      case rel => exact Or.inr (Or.inl ⟨rfl, by simp⟩)
      case measure => simp [intOf]
    · go_wp2_with fail
      go_round
      case rel => exact Or.inr (Or.inr ⟨rfl, rfl⟩)
      case measure => simp [intOf]
    · clear hc0 hc1
      have hcast : ((n1 : Int) + n2) = ((n1 + n2 : Nat) : Int) := by simp
      have HG3 := hid (fun W => by have := HG.out (n1 + n2) (by omega) W; rw [← hcast] at this; exact this)
      clear hcast
      go_wp2_with (go_at_call 142; refine (HG3.out _).mono ?_; rintro e w1 ⟨q, kc, rfl, hown1, hb1⟩; have HO1 := hid hown1; have HB1 := hid hb1; clear hown1 hb1)
      go_loopw [6, 27] (fun v u wr => ∃ (q : Option Addr) (k kc : Nat) (l : List ByteArray), v = .slice q k kc ∧ wr.ownsRow w.heap.size 9 1 (.slice q k kc) k (l.map Value.string) ∧ Below w.heap.size w wr ∧
        ((u = .int .i64 0 ∧ l = [] ∧ k = 0) ∨ (u = .int .i64 1 ∧ l = l1 ∧ k = n1) ∨ (u = .int .i64 2 ∧ l = l1 ++ l2 ∧ k = n1 + n2))) (fun _ u _ => (2 - intOf u).toNat)
      case atStart => exact ⟨q, 0, kc, [], rfl, HO1.out, HB1.out, Or.inl ⟨rfl, rfl, rfl⟩⟩
      case round =>
        obtain ⟨q, k, kc, l, rfl, hown, hbel, hcase⟩ := hrel
        have HO := hid hown
        have HB := hid hbel
        have hz := hbel.size
        have hk := Kept.of_below hbel (Nat.le_refl _)
        have s1 := H1.out.kept hk
        have s2 := H2.out.kept hk
        have e0 := hk.cell HC0.out
        have e1 := hk.cell HC1.out
        have S1 := hid s1
        have S2 := hid s2
        clear hown hbel hk s1 s2
        have hlt := hid (fun k hk => (HO.out.lt k hk).1)
        rcases hcase with ⟨rfl, rfl, rfl⟩ | ⟨rfl, rfl, rfl⟩ | ⟨rfl, rfl, rfl⟩
        · go_wp2_with (at_builtin; refine wpList_append_sv _ rfl _ _ 60 rfl w.heap.size 9 i0 (.string ByteArray.empty) 16 Tryz.underlying60 hi0 hz0 hz1 hz2 rfl _ _ _ _ rfl HO.out _ _ _ l1 rfl S1.out (by unfold maxLen; omega) (by omega) (by omega) ?_; intro q' kc' w2 hown2 hg2; have HO2 := hid hown2; have HG2 := hid hg2; clear hown2 hg2)
          rw [Nat.zero_add] at HO2
          go_roundw
          case rel => exact ⟨q', n1, kc', l1, rfl, by simpa using HO2.out, HB.out.grown HG2.out (by omega) (fun k e => hlt.out k e), Or.inr (Or.inl ⟨rfl, rfl, rfl⟩)⟩
          case measure => simp [intOf]
        · go_wp2_with (at_builtin; refine wpList_append_sv _ rfl _ _ 60 rfl w.heap.size 9 i0 (.string ByteArray.empty) 16 Tryz.underlying60 hi0 hz0 hz1 hz2 rfl _ _ _ _ rfl HO.out _ _ _ l2 rfl S2.out (by unfold maxLen; omega) (by omega) (by omega) ?_; intro q' kc' w2 hown2 hg2; have HO2 := hid hown2; have HG2 := hid hg2; clear hown2 hg2)
          go_roundw
          case rel => exact ⟨q', _, kc', l ++ l2, rfl, by rw [List.map_append]; exact HO2.out, HB.out.grown HG2.out (by omega) (fun k e => hlt.out k e), Or.inr (Or.inr ⟨rfl, rfl, rfl⟩)⟩
          case measure => simp [intOf]
        · go_wp2_with fail
          go_ret
          exact ⟨q, kc, rfl, HO.out, HB.out⟩
end Go.Proofs.YtagifgekhboinaaGreatDoor

namespace Go.Proofs.YtagifgekhboinaaGreatDoor
open Go.RowKit

set_option maxRecDepth 100000 in
set_option maxHeartbeats 1000000 in
theorem depthOf_any (s : ByteArray) (ar : List ByteArray) (p : Option Addr) (n c : Nat) (w : World) (hv : SV w p n c ar) (hn : n ≤ 100000) :
    Calls Tryz.prog 108 #[.string s, .slice p n c] w fun e w' => e = .returned (.int .i64 (depthIn s.toList ar)) ∧ w = w' := by
  have HV := hid hv
  have hl := hv.1
  have HL := hid hl
  clear hv hl
  go_enter Tryz.func108, Tryz.ntmps108
  go_wp2_with fail
  go_loop [8] (fun u => ∃ i : Nat, i ≤ n ∧ u = .int .i64 (i : Int) ∧ Hid (depthIn s.toList ar = depthR s.toList (ar.reverse.drop i) i)) (fun u => n - (intOf u).toNat)
  case atStart => exact ⟨0, Nat.zero_le _, rfl, by show _ = _; rw [List.drop_zero]; rfl⟩
  case round =>
    obtain ⟨i, hi, rfl, hd⟩ := hrel
    by_cases hlt : i < n
    · have hj : n - 1 - i < ar.length := by rw [HL.out]; omega
      obtain ⟨x, hx⟩ : ∃ x, ar[n - 1 - i]? = some x := ⟨_, List.getElem?_eq_getElem hj⟩
      obtain ⟨g, rfl, hc⟩ := HV.out.2.2 _ x hx
      have hjj : (n : Int) - 1 - (i : Int) = ((n - 1 - i : Nat) : Int) := by omega
      have hrev : ar.reverse.drop i = x :: ar.reverse.drop (i + 1) := by
        have hil : i < ar.reverse.length := by rw [List.length_reverse, HL.out]; exact hlt
        rw [List.drop_eq_getElem_cons hil, List.getElem_reverse]
        congr 1
        rw [List.getElem?_eq_getElem hj] at hx
        have : ar.length - 1 - i = n - 1 - i := by rw [HL.out]
        simp only [this]; exact Option.some.inj hx
      have hdn := hd.out
      rw [hrev, depthR] at hdn
      have HD := hid hdn
      obtain ⟨j, hjd⟩ : ∃ j, n - 1 - i = j := ⟨_, rfl⟩
      rw [hjd] at hjj hc
      have hj0 : (0 : Int) ≤ (j : Int) := by omega
      have hj1 : (j : Int) < (n : Int) := by omega
      clear hx hrev hdn hd hj
      cases hq : x.toList == s.toList with
      | true =>
        have HQ := hid (show x.toList = s.toList by simpa using hq)
        go_wp2_with fail
        go_ret
        exact ⟨ret_int (by rw [HD.out, if_pos HQ.out]), rfl⟩
      | false =>
        have HQ := hid (show ¬ x.toList = s.toList by simpa using hq)
        go_wp2_with fail
        go_round
        case rel => exact ⟨i + 1, by omega, by go_num, by show _ = _; rw [HD.out, if_neg HQ.out]⟩
        case measure => simp [intOf]; omega
    · have hin : i = n := by omega
      have HE := hid (show depthIn s.toList ar = -1 by rw [hd.out, hin, List.drop_of_length_le (by rw [List.length_reverse, HL.out]; exact Nat.le_refl _)]; rfl)
      clear hin hd
      go_wp2_with fail
      go_ret
      exact ⟨ret_int HE.out.symm, rfl⟩

/-- A head's sort. -/
def sortS (hd : ByteArray) : ByteArray := if isValHead hd.toList = true then strV else strC
set_option maxRecDepth 100000 in
set_option maxHeartbeats 1000000 in
theorem sort_any (hd : ByteArray) (b : Nat) (w : World) (hc : w.cell? ⟨b, 0, none⟩ = some (.string hd)) :
    Calls Tryz.prog 127 #[.pointer (some ⟨b, 0, none⟩)] w fun e w' => e = .returned (.string (sortS hd)) ∧ w = w' := by
  cases e0 : hd.toList == [110, 97, 109, 101] with
  | true =>
    have hq := hid (show isValHead hd.toList = true by rw [eq_t e0]; rfl)
    go_enter Tryz.func127, Tryz.ntmps127
    go_wp2
    go_ret
    exact ⟨ret_str (by rw [sortS, if_pos hq.out]; rfl), rfl⟩
  | false =>
    cases e1 : hd.toList == [98, 105, 116] with
    | true =>
      have hq := hid (show isValHead hd.toList = true by rw [eq_t e1]; rfl)
      go_enter Tryz.func127, Tryz.ntmps127
      go_wp2
      go_ret
      exact ⟨ret_str (by rw [sortS, if_pos hq.out]; rfl), rfl⟩
    | false =>
      cases e2 : hd.toList == [112, 97, 105, 114] with
      | true =>
        have hq := hid (show isValHead hd.toList = true by rw [eq_t e2]; rfl)
        go_enter Tryz.func127, Tryz.ntmps127
        go_wp2
        go_ret
        exact ⟨ret_str (by rw [sortS, if_pos hq.out]; rfl), rfl⟩
      | false =>
        cases e3 : hd.toList == [116, 104, 117, 110, 107] with
        | true =>
          have hq := hid (show isValHead hd.toList = true by rw [eq_t e3]; rfl)
          go_enter Tryz.func127, Tryz.ntmps127
          go_wp2
          go_ret
          exact ⟨ret_str (by rw [sortS, if_pos hq.out]; rfl), rfl⟩
        | false =>
          have hq := hid (show ¬ isValHead hd.toList = true by
            unfold isValHead
            simp only [beq_eq_false_iff_ne, ne_eq] at e0 e1 e2 e3
            simp [e0, e1, e2, e3])
          go_enter Tryz.func127, Tryz.ntmps127
          go_wp2
          go_ret
          exact ⟨ret_str (by rw [sortS, if_neg hq.out]; rfl), rfl⟩
end Go.Proofs.YtagifgekhboinaaGreatDoor

namespace Go.Proofs.YtagifgekhboinaaGreatDoor
open Go.RowKit

theorem Tryz.infoPtr : (Tryz.prog.info? 40).map (fun i => (i.zero, i.size, i.bytes)) = some (some (.pointer none), 1, 8) := by kernel_rfl
/-- A node's block, whose rows are the call's own. -/
structure BldAt (w : World) (b : Nat) (hd : ByteArray) (st : St) (bp : Option Addr) (bl bc : Nat) (kp : Option Addr) (kl kc : Nat) (A : Nat → Nat) : Prop where
  heap : w.heap[b]? = some (.cells #[.string hd, .string ByteArray.empty, .int .i64 0, .slice bp bl bc, tyV st.ty, .slice kp kl kc] 82 (0, 0))
  binds : w.ownsRow (b + 1) 9 1 (.slice bp bl bc) bl (st.binds.map Value.string)
  kids : w.ownsRow (b + 1) 40 1 (.slice kp kl kc) kl (ptrs A kl)
  hkl : st.kids.length = kl
  apart : ∀ g, (Value.slice bp bl bc).ownBlock = some g → (Value.slice kp kl kc).ownBlock ≠ some g
  nodes : ∀ i k, st.kids[i]? = some k → NIn w (fun x => b + 1 ≤ x ∧ (Value.slice bp bl bc).ownBlock ≠ some x ∧ (Value.slice kp kl kc).ownBlock ≠ some x) k (A i)
def Bld (w : World) (b : Nat) (hd : ByteArray) (st : St) : Prop := ∃ bp bl bc kp kl kc A, BldAt w b hd st bp bl bc kp kl kc A

theorem BldAt.bl {w : World} {b : Nat} {hd : ByteArray} {st : St} {bp : Option Addr} {bl bc : Nat} {kp : Option Addr} {kl kc : Nat} {A : Nat → Nat} (h : BldAt w b hd st bp bl bc kp kl kc A) : st.binds.length = bl := by
  have := h.binds.1; simpa using this
theorem BldAt.sv {w : World} {b : Nat} {hd : ByteArray} {st : St} {bp : Option Addr} {bl bc : Nat} {kp : Option Addr} {kl kc : Nat} {A : Nat → Nat} (h : BldAt w b hd st bp bl bc kp kl kc A) : SV w bp bl bc st.binds := sv_own h.binds
theorem BldAt.under {w w' : World} {b : Nat} {hd : ByteArray} {st : St} {bp : Option Addr} {bl bc : Nat} {kp : Option Addr} {kl kc : Nat} {A : Nat → Nat} (h : BldAt w b hd st bp bl bc kp kl kc A) (hb : Below w.heap.size w w') : BldAt w' b hd st bp bl bc kp kl kc A :=
  ⟨block_below h.heap hb (lt_of_block h.heap), ownsRow_under h.binds hb, ownsRow_under h.kids hb, h.hkl, h.apart, fun i k hk => (h.nodes i k hk).keep (fun x _ hl => hb.block x hl) (fun _ hx _ => hx)⟩

theorem BldAt.start (w : World) (hd : ByteArray) (b : Nat) (hb : b = w.heap.size) : BldAt (w.alloc (.cells #[.string hd, .string ByteArray.empty, .int .i64 0, .slice none 0 0, .nilIface, .slice none 0 0] 82)) b hd St.none none 0 0 none 0 0 (fun _ => 0) :=
  ⟨heap_new _ _ _ hb, World.ownsRow_nil _ _ _ _, World.ownsRow_nil _ _ _ _, rfl, fun g h => by simp [Value.ownBlock] at h, fun i k h => by simp [St.none] at h⟩

/-- One more name is bound. -/
theorem BldAt.bound {w w2 : World} {b : Nat} {hd s : ByteArray} {st : St} {bp bp' : Option Addr} {bl bc bc' : Nat} {kp : Option Addr} {kl kc : Nat} {A : Nat → Nat} (h : BldAt w b hd st bp bl bc kp kl kc A)
    (hown : w2.ownsRow (b + 1) 9 1 (.slice bp' (bl + 1) bc') (bl + 1) (st.binds.map Value.string ++ [.string s])) (hg : w.grownBy w2 (Value.slice bp bl bc).ownBlock)
    (hw : (Value.slice bp' (bl + 1) bc').ownBlock = (Value.slice bp bl bc).ownBlock ∨ (Value.slice bp' (bl + 1) bc').ownBlock = some w.heap.size) :
    BldAt (w2.setCell ⟨b, 3, none⟩ (.slice bp' (bl + 1) bc')) b hd { st with binds := st.binds ++ [s] } bp' (bl + 1) bc' kp kl kc A := by
  have hbo : (Value.slice bp bl bc).ownBlock ≠ some b := fun e => by have := (h.binds.lt b e).1; omega
  have hb2 := block_grown h.heap hg hbo
  have hset : ∀ k, b + 1 ≤ k → (w2.setCell ⟨b, 3, none⟩ (.slice bp' (bl + 1) bc')).heap[k]? = w2.heap[k]? := fun k hk => Below.heap_setCell _ _ _ _ (by show k ≠ b; omega)
  refine ⟨(six_setCell hb2).1, ?_, ?_, h.hkl, ?_, ?_⟩
  · simp only [List.map_append, List.map_cons, List.map_nil]
    exact ownsRow_setCell_below hown (by show b < b + 1; omega) _
  · refine ownsRow_setCell_below (h.kids.kept hg ?_) (by show b < b + 1; omega) _
    cases hk : (Value.slice kp kl kc).ownBlock with
    | none => exact Or.inl rfl
    | some g => exact Or.inr (fun e => h.apart g e.symm hk)
  · intro g hg2 hk
    rcases hw with e | e
    · exact h.apart g (e ▸ hg2) hk
    · rw [e] at hg2
      have := (h.kids.lt g hk).2
      have := Option.some.inj hg2; omega
  · intro i k hik
    refine (h.nodes i k hik).keep (fun x hx hl => ?_) (fun x hx hl => ⟨hx.1, ?_, hx.2.2⟩)
    · rw [hset x hx.1]; exact hg.block x hl (fun e => hx.2.1 e.symm)
    · rcases hw with e | e
      · rw [e]; exact hx.2.1
      · rw [e]; intro e2; have := Option.some.inj e2; omega

/-- One more part. -/
theorem BldAt.kid {w w2 : World} {b a : Nat} {hd : ByteArray} {m : Tm} {st : St} {bp : Option Addr} {bl bc : Nat} {kp kp' : Option Addr} {kl kc kc' : Nat} {A : Nat → Nat} (h : BldAt w b hd st bp bl bc kp kl kc A)
    (hn : NIn w (fun x => b + 1 ≤ x ∧ (Value.slice bp bl bc).ownBlock ≠ some x ∧ (Value.slice kp kl kc).ownBlock ≠ some x) m a)
    (hown : w2.ownsRow (b + 1) 40 1 (.slice kp' (kl + 1) kc') (kl + 1) (ptrs A kl ++ [.pointer (some ⟨a, 0, none⟩)])) (hg : w.grownBy w2 (Value.slice kp kl kc).ownBlock)
    (hw : (Value.slice kp' (kl + 1) kc').ownBlock = (Value.slice kp kl kc).ownBlock ∨ (Value.slice kp' (kl + 1) kc').ownBlock = some w.heap.size) :
    BldAt (w2.setCell ⟨b, 5, none⟩ (.slice kp' (kl + 1) kc')) b hd { st with kids := st.kids ++ [m] } bp bl bc kp' (kl + 1) kc' (fun i => if i = kl then a else A i) := by
  have hko : (Value.slice kp kl kc).ownBlock ≠ some b := fun e => by have := (h.kids.lt b e).1; omega
  have hb2 := block_grown h.heap hg hko
  have hset : ∀ k, b + 1 ≤ k → (w2.setCell ⟨b, 5, none⟩ (.slice kp' (kl + 1) kc')).heap[k]? = w2.heap[k]? := fun k hk => Below.heap_setCell _ _ _ _ (by show k ≠ b; omega)
  have hkeep : ∀ {k : Tm} {x : Nat}, NIn w (fun x => b + 1 ≤ x ∧ (Value.slice bp bl bc).ownBlock ≠ some x ∧ (Value.slice kp kl kc).ownBlock ≠ some x) k x → NIn (w2.setCell ⟨b, 5, none⟩ (.slice kp' (kl + 1) kc')) (fun x => b + 1 ≤ x ∧ (Value.slice bp bl bc).ownBlock ≠ some x ∧ (Value.slice kp' (kl + 1) kc').ownBlock ≠ some x) k x := by
    intro k x hk
    refine hk.keep (fun y hy hl => ?_) (fun y hy hl => ⟨hy.1, hy.2.1, ?_⟩)
    · rw [hset y hy.1]; exact hg.block y hl (fun e => hy.2.2 e.symm)
    · rcases hw with e | e
      · rw [e]; exact hy.2.2
      · rw [e]; intro e2; have := Option.some.inj e2; omega
  refine ⟨(six_setCell hb2).2.2, ?_, ?_, by simp [h.hkl], ?_, ?_⟩
  · refine ownsRow_setCell_below (h.binds.kept hg ?_) (by show b < b + 1; omega) _
    cases hk : (Value.slice bp bl bc).ownBlock with
    | none => exact Or.inl rfl
    | some g => exact Or.inr (fun e => h.apart g hk e.symm)
  · rw [ptrs_snoc]; exact ownsRow_setCell_below hown (by show b < b + 1; omega) _
  · intro g hg2 hk
    rcases hw with e | e
    · exact h.apart g hg2 (e ▸ hk)
    · rw [e] at hk
      have := (h.binds.lt g hg2).2
      have := Option.some.inj hk; omega
  · intro i k hik
    by_cases hi : i < st.kids.length
    · rw [List.getElem?_append_left hi] at hik
      have : (if i = kl then a else A i) = A i := if_neg (by have := h.hkl; omega)
      rw [this]; exact hkeep (h.nodes i k hik)
    · have hi2 : i = st.kids.length := by
        have := (List.getElem?_eq_some_iff.1 hik).1
        simp at this; omega
      subst hi2
      simp at hik; subst hik
      have : (if st.kids.length = kl then a else A st.kids.length) = a := if_pos h.hkl
      rw [this]; exact hkeep hn

/-- The type. -/
theorem BldAt.typ {w : World} {b : Nat} {hd : ByteArray} {st : St} {bp : Option Addr} {bl bc : Nat} {kp : Option Addr} {kl kc : Nat} {A : Nat → Nat} (h : BldAt w b hd st bp bl bc kp kl kc A) (t : Ty) :
    BldAt (w.setCell ⟨b, 4, none⟩ t.val) b hd { st with ty := some t } bp bl bc kp kl kc A := by
  have hset : ∀ k, b + 1 ≤ k → (w.setCell ⟨b, 4, none⟩ t.val).heap[k]? = w.heap[k]? := fun k hk => Below.heap_setCell _ _ _ _ (by show k ≠ b; omega)
  refine ⟨(six_setCell h.heap).2.1, ownsRow_setCell_below h.binds (by show b < b + 1; omega) _, ownsRow_setCell_below h.kids (by show b < b + 1; omega) _, h.hkl, h.apart, fun i k hik => ?_⟩
  exact (h.nodes i k hik).keep (fun x hx _ => hset x hx.1) (fun _ hx _ => hx)

/-- A finished term. -/
theorem BldAt.done {w : World} {b : Nat} {hd : ByteArray} {st : St} {bp : Option Addr} {bl bc : Nat} {kp : Option Addr} {kl kc : Nat} {A : Nat → Nat} (h : BldAt w b hd st bp bl bc kp kl kc A) :
    NIn w (fun k => b ≤ k) (.mk hd ByteArray.empty 0 st.binds st.ty st.kids) b := by
  refine .mk _ _ _ _ _ _ b bp bl bc kp kl kc A (Nat.le_refl _) h.heap h.bl h.hkl ⟨own_cap h.binds, own_cap h.kids⟩ ?_ ?_ (fun i k hik => (h.nodes i k hik).keep (fun _ _ _ => rfl) (fun x hx _ => by omega))
  · intro i v hv
    obtain ⟨s, hs, rfl⟩ : ∃ s, st.binds[i]? = some s ∧ Value.string s = v := by simpa using hv
    obtain ⟨g, hp, hc⟩ := h.sv.2.2 i s hs
    exact ⟨g, hp, by have := (own_lt h.binds g 0 hp).1; omega, hc⟩
  · intro i v hv
    rcases h.kids.2 with ⟨hv2, hn⟩ | ⟨g, cap, cur, hv2, hbg, _⟩
    · have := (List.getElem?_eq_some_iff.1 hv).1
      rw [ptrs_length] at this; omega
    · obtain ⟨rfl, _⟩ : kp = some ⟨g, 0, none⟩ ∧ kc = cap := by simp at hv2; exact hv2
      have hc := h.kids.cells (g := g) rfl i v hv
      have hadd : (⟨g, 0, none⟩ : Addr).add i = ⟨g, i, none⟩ := by unfold Addr.add; split <;> simp_all
      rw [hadd] at hc
      exact ⟨g, rfl, by omega, hc⟩

/-- What adding a part leaves. -/
def PartPost (o : Option St) (b : Nat) (hd : ByteArray) (w : World) (e : Ending) (w' : World) : Prop :=
  Below b w w' ∧ match o with
    | some st => e = .returned (.bool true) ∧ Bld w' b hd st
    | none => e = .returned (.bool false)
theorem PartPost.none {b : Nat} {hd : ByteArray} {w w' : World} {e : Ending} (h : PartPost Option.none b hd w e w') : e = .returned (.bool false) ∧ Below b w w' := ⟨h.2, h.1⟩
theorem PartPost.some {b : Nat} {hd : ByteArray} {w w' : World} {e : Ending} {st : St} (h : PartPost (Option.some st) b hd w e w') : e = .returned (.bool true) ∧ Below b w w' ∧ Bld w' b hd st := ⟨h.2.1, h.1, h.2.2⟩

set_option maxRecDepth 100000 in
set_option maxHeartbeats 1000000 in
theorem addBound_any (s : ByteArray) (hs : s.size ≤ 400000000) (b : Nat) (hd : ByteArray) (st : St) (w : World) (hst : Bld w b hd st) (hbn : st.binds.length ≤ 1000) :
    Calls Tryz.prog 109 #[.pointer (some ⟨b, 0, none⟩), .string s] w (PartPost (addX s st) b hd w) := by
  obtain ⟨bp, bl, bc, kp, kl, kc, A, h⟩ := hst
  have HN := hid (fun W => isName_any s hs W)
  have hbl := h.bl
  have hlt := lt_of_block h.heap
  rw [hbl] at hbn
  have H := hid h
  have HBL := hid hbl
  clear h hbl
  cases hnm : nameB s.toList with
  | false =>
    have HX := hid (show addX s st = none by rw [addX, if_neg (by rw [hnm]; simp)])
    rw [hnm] at HN
    clear hnm
    go_enter Tryz.func109, Tryz.ntmps109
    go_wp2_with (go_at_call 107; refine (HN.out _).mono ?_; rintro e w1 ⟨rfl, hb1⟩)
    go_ret
    rw [HX.out]
    exact ⟨hb1.mono (by omega), rfl⟩
  | true =>
    rw [hnm] at HN
    have HNM := hid hnm
    clear hnm
    cases hbs : hasB st.binds s.toList with
    | true =>
      have HX := hid (show addX s st = none by rw [addX, if_neg]; exact fun hh => hh.2 hbs)
      have HB := hid hbs
      clear hbs
      go_enter Tryz.func109, Tryz.ntmps109
      go_wp2_with (first | (go_at_call 107; refine (HN.out _).mono ?_; rintro e w1 ⟨rfl, hb1⟩; have h1 := H.out.under hb1; have k := cells_of_six h1.heap; have HC := hid (contains_sv _ _ _ _ s w1 h1.sv (by omega)); rw [HB.out] at HC; clear h1) | (go_at_call 125; refine HC.out.mono ?_; rintro e w2 ⟨rfl, rfl⟩))
      go_ret
      rw [HX.out]
      exact ⟨hb1.mono (by omega), rfl⟩
    | false =>
      have HX := hid (show addX s st = some { st with binds := st.binds ++ [s] } by rw [addX, if_pos]; exact ⟨HNM.out, by intro hh; have := hbs; unfold hasB at this; rw [this] at hh; cases hh⟩)
      have HB := hid hbs
      obtain ⟨i0, hi0, hz0, hz1, hz2⟩ := info_parts Tryz.infoStr
      clear hbs
      go_enter Tryz.func109, Tryz.ntmps109
      go_wp2_with (first
        | (at_builtin; refine wpList_append_at _ rfl (.tmp 20) (.tmp 22) 60 rfl (b + 1) 9 i0 (.string ByteArray.empty) 1 16 Tryz.underlying60 hi0 hz0 hz1 hz2 rfl (by decide) (.slice bp bl bc) bl _ rfl ((ownsRow_under H.out.binds hb1).alloc _) ⟨w1.heap.size, 0, none⟩ 1 1 [.string s] rfl rfl (cells_new1 _ _ _ _ rfl) (by intro u hu; simp at hu; subst hu; rfl) (by decide) (by unfold maxLen; omega) (by omega) (by have := hb1.size; simp; omega) ?_; intro v' w2 hown2 hg2 hw2 hv2; obtain ⟨g2, kc2, rfl⟩ := hv2; have hbo : (Value.slice bp bl bc).ownBlock ≠ some b := (fun e => by have := (H.out.binds.lt b e).1; omega); have m := cells_of_six (block_grown ((H.out.under (hb1.alloc hb1.size (.cells #[.string s] 9))).heap) hg2 hbo); have HG := hid hg2; have HO := hid hown2; have HW := hid hw2; clear hg2 hown2 hw2 hbo)
        | (go_at_call 107; refine (HN.out _).mono ?_; rintro e w1 ⟨rfl, hb1⟩; have h1 := H.out.under hb1; have k := cells_of_six h1.heap; have HC := hid (contains_sv _ _ _ _ s w1 h1.sv (by omega)); rw [HB.out] at HC; clear h1)
        | (go_at_call 125; refine HC.out.mono ?_; rintro e w2 ⟨rfl, rfl⟩))
      go_ret
      rw [HX.out]
      have hz := hb1.size
      have hfin := (H.out.under (hb1.alloc hz (.cells #[.string s] 9))).bound HO.out HG.out HW.out
      refine ⟨?_, rfl, _, _, _, _, _, _, _, hfin⟩
      exact ((((hb1.mono (show b ≤ w.heap.size by omega)).alloc (by omega) _).grown HG.out (by simp; omega) (fun k e => by have := (H.out.binds.lt k e).1; omega)).setCell (Nat.le_refl _) _)
end Go.Proofs.YtagifgekhboinaaGreatDoor

namespace Go.Proofs.YtagifgekhboinaaGreatDoor
open Go.RowKit

/-- The word of a sort. -/
def vS : Bool → ByteArray
  | true => strV
  | false => strC
theorem vc_ne : (strV.toList == strC.toList) = false := by rw [strV_toList, strC_toList]; rfl
theorem cv_ne : (strC.toList == strV.toList) = false := by rw [strV_toList, strC_toList]; rfl

set_option maxRecDepth 100000 in
set_option maxHeartbeats 1000000 in
theorem addType_bit_true {w0 : World} {S : Nat → Prop} {p : Tree} {h : Hd} (ht : TIn w0 S p h) (hwt : p.wt ≤ 12000) (hok : p.ok) (b : Nat) (hd : ByteArray) (st : St) (w : World) (hst : Bld w b hd st) (hk : Kept w0 w) (hw : w0.heap.size ≤ w.heap.size) (hty : tyLim p = some Ty.bit) :
    Calls Tryz.prog 110 #[.pointer (some ⟨b, 0, none⟩), .agg #[.string h.a, .slice h.p h.l h.c], .string strV] w (PartPost (addT true p st) b hd w) := by
  obtain ⟨bp, bl, bc, kp, kl, kc, A, H0⟩ := hst
  have H := hid H0
  have hlt := lt_of_block H0.heap
  have HX := hid (show addT true p st = some { st with ty := some Ty.bit } by rw [addT, hty]; rfl)
  have HL := hid (fun W (hk : Kept w0 W) (hs : w0.heap.size ≤ W.heap.size) => by have := limitedType_any ht hwt hok W hk hs; rw [hty] at this; exact this)
  have HK := hid (hk.alloc hw (.cells #[.string h.a, .slice h.p h.l h.c] 66))
  have mk := m_kind_bit
  have e1 := vc_ne
  have e2 := cv_ne
  clear H0 ht hok hk hty
  obtain ⟨pa, pp, pl, pc⟩ := h
  go_enter Tryz.func110, Tryz.ntmps110
  go_wp2_with (first
    | (go_at_call 30; refine (HL.out _ HK.out (by simp; omega)).mono ?_; rintro e w1 hp; obtain ⟨he1, hb1⟩ := hp.some; simp only [Ty.val] at he1; subst he1; clear hp; have hz1 : w.heap.size ≤ w1.heap.size := (by have := hb1.size; simp at this; omega))
    | (go_at_call 195; refine (kind_bit _).mono ?_; rintro e w2 ⟨rfl, hb2⟩; have hB := hid (((Below.refl w.heap.size w).alloc (Nat.le_refl _) (.cells #[.string pa, .slice pp pl pc] 66)).trans ((hb1.mono (by simp)).trans (hb2.mono hz1))); have k := cells_of_six (H.out.under hB.out).heap))
  go_ret
  rw [HX.out]
  exact ⟨(hB.out.mono (show b ≤ w.heap.size by omega)).setCell (Nat.le_refl _) _, rfl, _, _, _, _, _, _, _, (H.out.under hB.out).typ Ty.bit⟩

set_option maxRecDepth 100000 in
set_option maxHeartbeats 1000000 in
theorem addType_bit_false {w0 : World} {S : Nat → Prop} {p : Tree} {h : Hd} (ht : TIn w0 S p h) (hwt : p.wt ≤ 12000) (hok : p.ok) (b : Nat) (hd : ByteArray) (st : St) (w : World) (hst : Bld w b hd st) (hk : Kept w0 w) (hw : w0.heap.size ≤ w.heap.size) (hty : tyLim p = some Ty.bit) :
    Calls Tryz.prog 110 #[.pointer (some ⟨b, 0, none⟩), .agg #[.string h.a, .slice h.p h.l h.c], .string strC] w (PartPost (addT false p st) b hd w) := by
  obtain ⟨bp, bl, bc, kp, kl, kc, A, H0⟩ := hst
  have H := hid H0
  have hlt := lt_of_block H0.heap
  have HX := hid (show addT false p st = none by rw [addT, hty]; rfl)
  have HL := hid (fun W (hk : Kept w0 W) (hs : w0.heap.size ≤ W.heap.size) => by have := limitedType_any ht hwt hok W hk hs; rw [hty] at this; exact this)
  have HK := hid (hk.alloc hw (.cells #[.string h.a, .slice h.p h.l h.c] 66))
  have mk := m_kind_bit
  have e1 := vc_ne
  have e2 := cv_ne
  clear H0 ht hok hk hty
  obtain ⟨pa, pp, pl, pc⟩ := h
  go_enter Tryz.func110, Tryz.ntmps110
  go_wp2_with (first
    | (go_at_call 30; refine (HL.out _ HK.out (by simp; omega)).mono ?_; rintro e w1 hp; obtain ⟨he1, hb1⟩ := hp.some; simp only [Ty.val] at he1; subst he1; clear hp; have hz1 : w.heap.size ≤ w1.heap.size := (by have := hb1.size; simp at this; omega))
    | (go_at_call 195; refine (kind_bit _).mono ?_; rintro e w2 ⟨rfl, hb2⟩; have hB := hid (((Below.refl w.heap.size w).alloc (Nat.le_refl _) (.cells #[.string pa, .slice pp pl pc] 66)).trans ((hb1.mono (by simp)).trans (hb2.mono hz1))); have k := cells_of_six (H.out.under hB.out).heap))
  go_ret
  rw [HX.out]
  exact ⟨hB.out.mono (by omega), rfl⟩

set_option maxRecDepth 100000 in
set_option maxHeartbeats 1000000 in
theorem addType_pair_true (x y : Ty) {w0 : World} {S : Nat → Prop} {p : Tree} {h : Hd} (ht : TIn w0 S p h) (hwt : p.wt ≤ 12000) (hok : p.ok) (b : Nat) (hd : ByteArray) (st : St) (w : World) (hst : Bld w b hd st) (hk : Kept w0 w) (hw : w0.heap.size ≤ w.heap.size) (hty : tyLim p = some (Ty.pair x y)) :
    Calls Tryz.prog 110 #[.pointer (some ⟨b, 0, none⟩), .agg #[.string h.a, .slice h.p h.l h.c], .string strV] w (PartPost (addT true p st) b hd w) := by
  obtain ⟨bp, bl, bc, kp, kl, kc, A, H0⟩ := hst
  have H := hid H0
  have hlt := lt_of_block H0.heap
  have HX := hid (show addT true p st = some { st with ty := some (Ty.pair x y) } by rw [addT, hty]; rfl)
  have HL := hid (fun W (hk : Kept w0 W) (hs : w0.heap.size ≤ W.heap.size) => by have := limitedType_any ht hwt hok W hk hs; rw [hty] at this; exact this)
  have HK := hid (hk.alloc hw (.cells #[.string h.a, .slice h.p h.l h.c] 66))
  have mk := m_kind_pair x.val y.val
  have e1 := vc_ne
  have e2 := cv_ne
  clear H0 ht hok hk hty
  obtain ⟨pa, pp, pl, pc⟩ := h
  go_enter Tryz.func110, Tryz.ntmps110
  go_wp2_with (first
    | (go_at_call 30; refine (HL.out _ HK.out (by simp; omega)).mono ?_; rintro e w1 hp; obtain ⟨he1, hb1⟩ := hp.some; simp only [Ty.val] at he1; subst he1; clear hp; have hz1 : w.heap.size ≤ w1.heap.size := (by have := hb1.size; simp at this; omega))
    | (go_at_call 175; refine (kind_pair _ _ _).mono ?_; rintro e w2 ⟨rfl, hb2⟩; have hB := hid (((Below.refl w.heap.size w).alloc (Nat.le_refl _) (.cells #[.string pa, .slice pp pl pc] 66)).trans ((hb1.mono (by simp)).trans (hb2.mono hz1))); have k := cells_of_six (H.out.under hB.out).heap))
  go_ret
  rw [HX.out]
  exact ⟨(hB.out.mono (show b ≤ w.heap.size by omega)).setCell (Nat.le_refl _) _, rfl, _, _, _, _, _, _, _, (H.out.under hB.out).typ (Ty.pair x y)⟩

set_option maxRecDepth 100000 in
set_option maxHeartbeats 1000000 in
theorem addType_pair_false (x y : Ty) {w0 : World} {S : Nat → Prop} {p : Tree} {h : Hd} (ht : TIn w0 S p h) (hwt : p.wt ≤ 12000) (hok : p.ok) (b : Nat) (hd : ByteArray) (st : St) (w : World) (hst : Bld w b hd st) (hk : Kept w0 w) (hw : w0.heap.size ≤ w.heap.size) (hty : tyLim p = some (Ty.pair x y)) :
    Calls Tryz.prog 110 #[.pointer (some ⟨b, 0, none⟩), .agg #[.string h.a, .slice h.p h.l h.c], .string strC] w (PartPost (addT false p st) b hd w) := by
  obtain ⟨bp, bl, bc, kp, kl, kc, A, H0⟩ := hst
  have H := hid H0
  have hlt := lt_of_block H0.heap
  have HX := hid (show addT false p st = none by rw [addT, hty]; rfl)
  have HL := hid (fun W (hk : Kept w0 W) (hs : w0.heap.size ≤ W.heap.size) => by have := limitedType_any ht hwt hok W hk hs; rw [hty] at this; exact this)
  have HK := hid (hk.alloc hw (.cells #[.string h.a, .slice h.p h.l h.c] 66))
  have mk := m_kind_pair x.val y.val
  have e1 := vc_ne
  have e2 := cv_ne
  clear H0 ht hok hk hty
  obtain ⟨pa, pp, pl, pc⟩ := h
  go_enter Tryz.func110, Tryz.ntmps110
  go_wp2_with (first
    | (go_at_call 30; refine (HL.out _ HK.out (by simp; omega)).mono ?_; rintro e w1 hp; obtain ⟨he1, hb1⟩ := hp.some; simp only [Ty.val] at he1; subst he1; clear hp; have hz1 : w.heap.size ≤ w1.heap.size := (by have := hb1.size; simp at this; omega))
    | (go_at_call 175; refine (kind_pair _ _ _).mono ?_; rintro e w2 ⟨rfl, hb2⟩; have hB := hid (((Below.refl w.heap.size w).alloc (Nat.le_refl _) (.cells #[.string pa, .slice pp pl pc] 66)).trans ((hb1.mono (by simp)).trans (hb2.mono hz1))); have k := cells_of_six (H.out.under hB.out).heap))
  go_ret
  rw [HX.out]
  exact ⟨hB.out.mono (by omega), rfl⟩

set_option maxRecDepth 100000 in
set_option maxHeartbeats 1000000 in
theorem addType_thunk_true (x : Ty) {w0 : World} {S : Nat → Prop} {p : Tree} {h : Hd} (ht : TIn w0 S p h) (hwt : p.wt ≤ 12000) (hok : p.ok) (b : Nat) (hd : ByteArray) (st : St) (w : World) (hst : Bld w b hd st) (hk : Kept w0 w) (hw : w0.heap.size ≤ w.heap.size) (hty : tyLim p = some (Ty.thunk x)) :
    Calls Tryz.prog 110 #[.pointer (some ⟨b, 0, none⟩), .agg #[.string h.a, .slice h.p h.l h.c], .string strV] w (PartPost (addT true p st) b hd w) := by
  obtain ⟨bp, bl, bc, kp, kl, kc, A, H0⟩ := hst
  have H := hid H0
  have hlt := lt_of_block H0.heap
  have HX := hid (show addT true p st = some { st with ty := some (Ty.thunk x) } by rw [addT, hty]; rfl)
  have HL := hid (fun W (hk : Kept w0 W) (hs : w0.heap.size ≤ W.heap.size) => by have := limitedType_any ht hwt hok W hk hs; rw [hty] at this; exact this)
  have HK := hid (hk.alloc hw (.cells #[.string h.a, .slice h.p h.l h.c] 66))
  have mk := m_kind_thunk x.val
  have e1 := vc_ne
  have e2 := cv_ne
  clear H0 ht hok hk hty
  obtain ⟨pa, pp, pl, pc⟩ := h
  go_enter Tryz.func110, Tryz.ntmps110
  go_wp2_with (first
    | (go_at_call 30; refine (HL.out _ HK.out (by simp; omega)).mono ?_; rintro e w1 hp; obtain ⟨he1, hb1⟩ := hp.some; simp only [Ty.val] at he1; subst he1; clear hp; have hz1 : w.heap.size ≤ w1.heap.size := (by have := hb1.size; simp at this; omega))
    | (go_at_call 183; refine (kind_thunk _ _).mono ?_; rintro e w2 ⟨rfl, hb2⟩; have hB := hid (((Below.refl w.heap.size w).alloc (Nat.le_refl _) (.cells #[.string pa, .slice pp pl pc] 66)).trans ((hb1.mono (by simp)).trans (hb2.mono hz1))); have k := cells_of_six (H.out.under hB.out).heap))
  go_ret
  rw [HX.out]
  exact ⟨(hB.out.mono (show b ≤ w.heap.size by omega)).setCell (Nat.le_refl _) _, rfl, _, _, _, _, _, _, _, (H.out.under hB.out).typ (Ty.thunk x)⟩

set_option maxRecDepth 100000 in
set_option maxHeartbeats 1000000 in
theorem addType_thunk_false (x : Ty) {w0 : World} {S : Nat → Prop} {p : Tree} {h : Hd} (ht : TIn w0 S p h) (hwt : p.wt ≤ 12000) (hok : p.ok) (b : Nat) (hd : ByteArray) (st : St) (w : World) (hst : Bld w b hd st) (hk : Kept w0 w) (hw : w0.heap.size ≤ w.heap.size) (hty : tyLim p = some (Ty.thunk x)) :
    Calls Tryz.prog 110 #[.pointer (some ⟨b, 0, none⟩), .agg #[.string h.a, .slice h.p h.l h.c], .string strC] w (PartPost (addT false p st) b hd w) := by
  obtain ⟨bp, bl, bc, kp, kl, kc, A, H0⟩ := hst
  have H := hid H0
  have hlt := lt_of_block H0.heap
  have HX := hid (show addT false p st = none by rw [addT, hty]; rfl)
  have HL := hid (fun W (hk : Kept w0 W) (hs : w0.heap.size ≤ W.heap.size) => by have := limitedType_any ht hwt hok W hk hs; rw [hty] at this; exact this)
  have HK := hid (hk.alloc hw (.cells #[.string h.a, .slice h.p h.l h.c] 66))
  have mk := m_kind_thunk x.val
  have e1 := vc_ne
  have e2 := cv_ne
  clear H0 ht hok hk hty
  obtain ⟨pa, pp, pl, pc⟩ := h
  go_enter Tryz.func110, Tryz.ntmps110
  go_wp2_with (first
    | (go_at_call 30; refine (HL.out _ HK.out (by simp; omega)).mono ?_; rintro e w1 hp; obtain ⟨he1, hb1⟩ := hp.some; simp only [Ty.val] at he1; subst he1; clear hp; have hz1 : w.heap.size ≤ w1.heap.size := (by have := hb1.size; simp at this; omega))
    | (go_at_call 183; refine (kind_thunk _ _).mono ?_; rintro e w2 ⟨rfl, hb2⟩; have hB := hid (((Below.refl w.heap.size w).alloc (Nat.le_refl _) (.cells #[.string pa, .slice pp pl pc] 66)).trans ((hb1.mono (by simp)).trans (hb2.mono hz1))); have k := cells_of_six (H.out.under hB.out).heap))
  go_ret
  rw [HX.out]
  exact ⟨hB.out.mono (by omega), rfl⟩

set_option maxRecDepth 100000 in
set_option maxHeartbeats 1000000 in
theorem addType_ret_true (x : Ty) {w0 : World} {S : Nat → Prop} {p : Tree} {h : Hd} (ht : TIn w0 S p h) (hwt : p.wt ≤ 12000) (hok : p.ok) (b : Nat) (hd : ByteArray) (st : St) (w : World) (hst : Bld w b hd st) (hk : Kept w0 w) (hw : w0.heap.size ≤ w.heap.size) (hty : tyLim p = some (Ty.ret x)) :
    Calls Tryz.prog 110 #[.pointer (some ⟨b, 0, none⟩), .agg #[.string h.a, .slice h.p h.l h.c], .string strV] w (PartPost (addT true p st) b hd w) := by
  obtain ⟨bp, bl, bc, kp, kl, kc, A, H0⟩ := hst
  have H := hid H0
  have hlt := lt_of_block H0.heap
  have HX := hid (show addT true p st = none by rw [addT, hty]; rfl)
  have HL := hid (fun W (hk : Kept w0 W) (hs : w0.heap.size ≤ W.heap.size) => by have := limitedType_any ht hwt hok W hk hs; rw [hty] at this; exact this)
  have HK := hid (hk.alloc hw (.cells #[.string h.a, .slice h.p h.l h.c] 66))
  have mk := m_kind_ret x.val
  have e1 := vc_ne
  have e2 := cv_ne
  clear H0 ht hok hk hty
  obtain ⟨pa, pp, pl, pc⟩ := h
  go_enter Tryz.func110, Tryz.ntmps110
  go_wp2_with (first
    | (go_at_call 30; refine (HL.out _ HK.out (by simp; omega)).mono ?_; rintro e w1 hp; obtain ⟨he1, hb1⟩ := hp.some; simp only [Ty.val] at he1; subst he1; clear hp; have hz1 : w.heap.size ≤ w1.heap.size := (by have := hb1.size; simp at this; omega))
    | (go_at_call 187; refine (kind_ret _ _).mono ?_; rintro e w2 ⟨rfl, hb2⟩; have hB := hid (((Below.refl w.heap.size w).alloc (Nat.le_refl _) (.cells #[.string pa, .slice pp pl pc] 66)).trans ((hb1.mono (by simp)).trans (hb2.mono hz1))); have k := cells_of_six (H.out.under hB.out).heap))
  go_ret
  rw [HX.out]
  exact ⟨hB.out.mono (by omega), rfl⟩

set_option maxRecDepth 100000 in
set_option maxHeartbeats 1000000 in
theorem addType_ret_false (x : Ty) {w0 : World} {S : Nat → Prop} {p : Tree} {h : Hd} (ht : TIn w0 S p h) (hwt : p.wt ≤ 12000) (hok : p.ok) (b : Nat) (hd : ByteArray) (st : St) (w : World) (hst : Bld w b hd st) (hk : Kept w0 w) (hw : w0.heap.size ≤ w.heap.size) (hty : tyLim p = some (Ty.ret x)) :
    Calls Tryz.prog 110 #[.pointer (some ⟨b, 0, none⟩), .agg #[.string h.a, .slice h.p h.l h.c], .string strC] w (PartPost (addT false p st) b hd w) := by
  obtain ⟨bp, bl, bc, kp, kl, kc, A, H0⟩ := hst
  have H := hid H0
  have hlt := lt_of_block H0.heap
  have HX := hid (show addT false p st = some { st with ty := some (Ty.ret x) } by rw [addT, hty]; rfl)
  have HL := hid (fun W (hk : Kept w0 W) (hs : w0.heap.size ≤ W.heap.size) => by have := limitedType_any ht hwt hok W hk hs; rw [hty] at this; exact this)
  have HK := hid (hk.alloc hw (.cells #[.string h.a, .slice h.p h.l h.c] 66))
  have mk := m_kind_ret x.val
  have e1 := vc_ne
  have e2 := cv_ne
  clear H0 ht hok hk hty
  obtain ⟨pa, pp, pl, pc⟩ := h
  go_enter Tryz.func110, Tryz.ntmps110
  go_wp2_with (first
    | (go_at_call 30; refine (HL.out _ HK.out (by simp; omega)).mono ?_; rintro e w1 hp; obtain ⟨he1, hb1⟩ := hp.some; simp only [Ty.val] at he1; subst he1; clear hp; have hz1 : w.heap.size ≤ w1.heap.size := (by have := hb1.size; simp at this; omega))
    | (go_at_call 187; refine (kind_ret _ _).mono ?_; rintro e w2 ⟨rfl, hb2⟩; have hB := hid (((Below.refl w.heap.size w).alloc (Nat.le_refl _) (.cells #[.string pa, .slice pp pl pc] 66)).trans ((hb1.mono (by simp)).trans (hb2.mono hz1))); have k := cells_of_six (H.out.under hB.out).heap))
  go_ret
  rw [HX.out]
  exact ⟨(hB.out.mono (show b ≤ w.heap.size by omega)).setCell (Nat.le_refl _) _, rfl, _, _, _, _, _, _, _, (H.out.under hB.out).typ (Ty.ret x)⟩

set_option maxRecDepth 100000 in
set_option maxHeartbeats 1000000 in
theorem addType_fn_true (x y : Ty) {w0 : World} {S : Nat → Prop} {p : Tree} {h : Hd} (ht : TIn w0 S p h) (hwt : p.wt ≤ 12000) (hok : p.ok) (b : Nat) (hd : ByteArray) (st : St) (w : World) (hst : Bld w b hd st) (hk : Kept w0 w) (hw : w0.heap.size ≤ w.heap.size) (hty : tyLim p = some (Ty.fn x y)) :
    Calls Tryz.prog 110 #[.pointer (some ⟨b, 0, none⟩), .agg #[.string h.a, .slice h.p h.l h.c], .string strV] w (PartPost (addT true p st) b hd w) := by
  obtain ⟨bp, bl, bc, kp, kl, kc, A, H0⟩ := hst
  have H := hid H0
  have hlt := lt_of_block H0.heap
  have HX := hid (show addT true p st = none by rw [addT, hty]; rfl)
  have HL := hid (fun W (hk : Kept w0 W) (hs : w0.heap.size ≤ W.heap.size) => by have := limitedType_any ht hwt hok W hk hs; rw [hty] at this; exact this)
  have HK := hid (hk.alloc hw (.cells #[.string h.a, .slice h.p h.l h.c] 66))
  have mk := m_kind_fn x.val y.val
  have e1 := vc_ne
  have e2 := cv_ne
  clear H0 ht hok hk hty
  obtain ⟨pa, pp, pl, pc⟩ := h
  go_enter Tryz.func110, Tryz.ntmps110
  go_wp2_with (first
    | (go_at_call 30; refine (HL.out _ HK.out (by simp; omega)).mono ?_; rintro e w1 hp; obtain ⟨he1, hb1⟩ := hp.some; simp only [Ty.val] at he1; subst he1; clear hp; have hz1 : w.heap.size ≤ w1.heap.size := (by have := hb1.size; simp at this; omega))
    | (go_at_call 191; refine (kind_fn _ _ _).mono ?_; rintro e w2 ⟨rfl, hb2⟩; have hB := hid (((Below.refl w.heap.size w).alloc (Nat.le_refl _) (.cells #[.string pa, .slice pp pl pc] 66)).trans ((hb1.mono (by simp)).trans (hb2.mono hz1))); have k := cells_of_six (H.out.under hB.out).heap))
  go_ret
  rw [HX.out]
  exact ⟨hB.out.mono (by omega), rfl⟩

set_option maxRecDepth 100000 in
set_option maxHeartbeats 1000000 in
theorem addType_fn_false (x y : Ty) {w0 : World} {S : Nat → Prop} {p : Tree} {h : Hd} (ht : TIn w0 S p h) (hwt : p.wt ≤ 12000) (hok : p.ok) (b : Nat) (hd : ByteArray) (st : St) (w : World) (hst : Bld w b hd st) (hk : Kept w0 w) (hw : w0.heap.size ≤ w.heap.size) (hty : tyLim p = some (Ty.fn x y)) :
    Calls Tryz.prog 110 #[.pointer (some ⟨b, 0, none⟩), .agg #[.string h.a, .slice h.p h.l h.c], .string strC] w (PartPost (addT false p st) b hd w) := by
  obtain ⟨bp, bl, bc, kp, kl, kc, A, H0⟩ := hst
  have H := hid H0
  have hlt := lt_of_block H0.heap
  have HX := hid (show addT false p st = some { st with ty := some (Ty.fn x y) } by rw [addT, hty]; rfl)
  have HL := hid (fun W (hk : Kept w0 W) (hs : w0.heap.size ≤ W.heap.size) => by have := limitedType_any ht hwt hok W hk hs; rw [hty] at this; exact this)
  have HK := hid (hk.alloc hw (.cells #[.string h.a, .slice h.p h.l h.c] 66))
  have mk := m_kind_fn x.val y.val
  have e1 := vc_ne
  have e2 := cv_ne
  clear H0 ht hok hk hty
  obtain ⟨pa, pp, pl, pc⟩ := h
  go_enter Tryz.func110, Tryz.ntmps110
  go_wp2_with (first
    | (go_at_call 30; refine (HL.out _ HK.out (by simp; omega)).mono ?_; rintro e w1 hp; obtain ⟨he1, hb1⟩ := hp.some; simp only [Ty.val] at he1; subst he1; clear hp; have hz1 : w.heap.size ≤ w1.heap.size := (by have := hb1.size; simp at this; omega))
    | (go_at_call 191; refine (kind_fn _ _ _).mono ?_; rintro e w2 ⟨rfl, hb2⟩; have hB := hid (((Below.refl w.heap.size w).alloc (Nat.le_refl _) (.cells #[.string pa, .slice pp pl pc] 66)).trans ((hb1.mono (by simp)).trans (hb2.mono hz1))); have k := cells_of_six (H.out.under hB.out).heap))
  go_ret
  rw [HX.out]
  exact ⟨(hB.out.mono (show b ≤ w.heap.size by omega)).setCell (Nat.le_refl _) _, rfl, _, _, _, _, _, _, _, (H.out.under hB.out).typ (Ty.fn x y)⟩

set_option maxRecDepth 100000 in
set_option maxHeartbeats 1000000 in
theorem addType_choice_true (x y : Ty) {w0 : World} {S : Nat → Prop} {p : Tree} {h : Hd} (ht : TIn w0 S p h) (hwt : p.wt ≤ 12000) (hok : p.ok) (b : Nat) (hd : ByteArray) (st : St) (w : World) (hst : Bld w b hd st) (hk : Kept w0 w) (hw : w0.heap.size ≤ w.heap.size) (hty : tyLim p = some (Ty.choice x y)) :
    Calls Tryz.prog 110 #[.pointer (some ⟨b, 0, none⟩), .agg #[.string h.a, .slice h.p h.l h.c], .string strV] w (PartPost (addT true p st) b hd w) := by
  obtain ⟨bp, bl, bc, kp, kl, kc, A, H0⟩ := hst
  have H := hid H0
  have hlt := lt_of_block H0.heap
  have HX := hid (show addT true p st = none by rw [addT, hty]; rfl)
  have HL := hid (fun W (hk : Kept w0 W) (hs : w0.heap.size ≤ W.heap.size) => by have := limitedType_any ht hwt hok W hk hs; rw [hty] at this; exact this)
  have HK := hid (hk.alloc hw (.cells #[.string h.a, .slice h.p h.l h.c] 66))
  have mk := m_kind_choice x.val y.val
  have e1 := vc_ne
  have e2 := cv_ne
  clear H0 ht hok hk hty
  obtain ⟨pa, pp, pl, pc⟩ := h
  go_enter Tryz.func110, Tryz.ntmps110
  go_wp2_with (first
    | (go_at_call 30; refine (HL.out _ HK.out (by simp; omega)).mono ?_; rintro e w1 hp; obtain ⟨he1, hb1⟩ := hp.some; simp only [Ty.val] at he1; subst he1; clear hp; have hz1 : w.heap.size ≤ w1.heap.size := (by have := hb1.size; simp at this; omega))
    | (go_at_call 179; refine (kind_choice _ _ _).mono ?_; rintro e w2 ⟨rfl, hb2⟩; have hB := hid (((Below.refl w.heap.size w).alloc (Nat.le_refl _) (.cells #[.string pa, .slice pp pl pc] 66)).trans ((hb1.mono (by simp)).trans (hb2.mono hz1))); have k := cells_of_six (H.out.under hB.out).heap))
  go_ret
  rw [HX.out]
  exact ⟨hB.out.mono (by omega), rfl⟩

set_option maxRecDepth 100000 in
set_option maxHeartbeats 1000000 in
theorem addType_choice_false (x y : Ty) {w0 : World} {S : Nat → Prop} {p : Tree} {h : Hd} (ht : TIn w0 S p h) (hwt : p.wt ≤ 12000) (hok : p.ok) (b : Nat) (hd : ByteArray) (st : St) (w : World) (hst : Bld w b hd st) (hk : Kept w0 w) (hw : w0.heap.size ≤ w.heap.size) (hty : tyLim p = some (Ty.choice x y)) :
    Calls Tryz.prog 110 #[.pointer (some ⟨b, 0, none⟩), .agg #[.string h.a, .slice h.p h.l h.c], .string strC] w (PartPost (addT false p st) b hd w) := by
  obtain ⟨bp, bl, bc, kp, kl, kc, A, H0⟩ := hst
  have H := hid H0
  have hlt := lt_of_block H0.heap
  have HX := hid (show addT false p st = some { st with ty := some (Ty.choice x y) } by rw [addT, hty]; rfl)
  have HL := hid (fun W (hk : Kept w0 W) (hs : w0.heap.size ≤ W.heap.size) => by have := limitedType_any ht hwt hok W hk hs; rw [hty] at this; exact this)
  have HK := hid (hk.alloc hw (.cells #[.string h.a, .slice h.p h.l h.c] 66))
  have mk := m_kind_choice x.val y.val
  have e1 := vc_ne
  have e2 := cv_ne
  clear H0 ht hok hk hty
  obtain ⟨pa, pp, pl, pc⟩ := h
  go_enter Tryz.func110, Tryz.ntmps110
  go_wp2_with (first
    | (go_at_call 30; refine (HL.out _ HK.out (by simp; omega)).mono ?_; rintro e w1 hp; obtain ⟨he1, hb1⟩ := hp.some; simp only [Ty.val] at he1; subst he1; clear hp; have hz1 : w.heap.size ≤ w1.heap.size := (by have := hb1.size; simp at this; omega))
    | (go_at_call 179; refine (kind_choice _ _ _).mono ?_; rintro e w2 ⟨rfl, hb2⟩; have hB := hid (((Below.refl w.heap.size w).alloc (Nat.le_refl _) (.cells #[.string pa, .slice pp pl pc] 66)).trans ((hb1.mono (by simp)).trans (hb2.mono hz1))); have k := cells_of_six (H.out.under hB.out).heap))
  go_ret
  rw [HX.out]
  exact ⟨(hB.out.mono (show b ≤ w.heap.size by omega)).setCell (Nat.le_refl _) _, rfl, _, _, _, _, _, _, _, (H.out.under hB.out).typ (Ty.choice x y)⟩

set_option maxRecDepth 100000 in
set_option maxHeartbeats 1000000 in
theorem addType_none {w0 : World} {S : Nat → Prop} {p : Tree} {h : Hd} (ht : TIn w0 S p h) (hwt : p.wt ≤ 12000) (hok : p.ok) (v : Bool) (kS : ByteArray) (b : Nat) (hd : ByteArray) (st : St) (w : World) (hb : b ≤ w.heap.size) (hk : Kept w0 w) (hw : w0.heap.size ≤ w.heap.size) (hty : tyLim p = none) :
    Calls Tryz.prog 110 #[.pointer (some ⟨b, 0, none⟩), .agg #[.string h.a, .slice h.p h.l h.c], .string kS] w (PartPost (addT v p st) b hd w) := by
  have HX := hid (show addT v p st = none by rw [addT, hty])
  have HL := hid (fun W (hk : Kept w0 W) (hs : w0.heap.size ≤ W.heap.size) => by have := limitedType_any ht hwt hok W hk hs; rw [hty] at this; exact this)
  have HK := hid (hk.alloc hw (.cells #[.string h.a, .slice h.p h.l h.c] 66))
  clear ht hok hk hty
  obtain ⟨pa, pp, pl, pc⟩ := h
  go_enter Tryz.func110, Tryz.ntmps110
  go_wp2_with (go_at_call 30; refine (HL.out _ HK.out (by simp; omega)).mono ?_; rintro e w1 hp; obtain ⟨rfl, hb1⟩ := hp.none; clear hp)
  go_ret
  rw [HX.out]
  exact ⟨((Below.refl w.heap.size w).alloc (Nat.le_refl _) _).trans (hb1.mono (by simp)) |>.mono hb, rfl⟩
/-- THE PROGRAM's addType. -/
theorem addType_any {w0 : World} {S : Nat → Prop} {p : Tree} {h : Hd} (ht : TIn w0 S p h) (hwt : p.wt ≤ 12000) (hok : p.ok) (v : Bool) (b : Nat) (hd : ByteArray) (st : St) (w : World) (hst : Bld w b hd st) (hk : Kept w0 w) (hw : w0.heap.size ≤ w.heap.size) :
    Calls Tryz.prog 110 #[.pointer (some ⟨b, 0, none⟩), .agg #[.string h.a, .slice h.p h.l h.c], .string (vS v)] w (PartPost (addT v p st) b hd w) := by
  have hlt : b < w.heap.size := by obtain ⟨bp, bl, bc, kp, kl, kc, A, H0⟩ := hst; exact lt_of_block H0.heap
  cases hty : tyLim p with
  | none => exact addType_none ht hwt hok v (vS v) b hd st w (by omega) hk hw hty
  | some t =>
    cases v with
    | true =>
      cases t with
      | bit => exact addType_bit_true ht hwt hok b hd st w hst hk hw hty
      | pair x y => exact addType_pair_true x y ht hwt hok b hd st w hst hk hw hty
      | thunk x => exact addType_thunk_true x ht hwt hok b hd st w hst hk hw hty
      | ret x => exact addType_ret_true x ht hwt hok b hd st w hst hk hw hty
      | fn x y => exact addType_fn_true x y ht hwt hok b hd st w hst hk hw hty
      | choice x y => exact addType_choice_true x y ht hwt hok b hd st w hst hk hw hty
    | false =>
      cases t with
      | bit => exact addType_bit_false ht hwt hok b hd st w hst hk hw hty
      | pair x y => exact addType_pair_false x y ht hwt hok b hd st w hst hk hw hty
      | thunk x => exact addType_thunk_false x ht hwt hok b hd st w hst hk hw hty
      | ret x => exact addType_ret_false x ht hwt hok b hd st w hst hk hw hty
      | fn x y => exact addType_fn_false x y ht hwt hok b hd st w hst hk hw hty
      | choice x y => exact addType_choice_false x y ht hwt hok b hd st w hst hk hw hty
end Go.Proofs.YtagifgekhboinaaGreatDoor

namespace Go.Proofs.YtagifgekhboinaaGreatDoor
open Go.RowKit

theorem NIn.head {w : World} {S : Nat → Prop} {m : Tm} {b : Nat} (h : NIn w S m b) : ∃ hd, w.cell? ⟨b, 0, none⟩ = some (.string hd) ∧ m.isVal = isValHead hd.toList := by
  cases h with
  | mk hd a d bs ty ks b bp bl bc kp kl kc A hS0 hb0 _ _ _ _ _ _ => exact ⟨hd, (cells_of_six hb0).1, rfl⟩
theorem sort_node {w : World} {S : Nat → Prop} {m : Tm} {b : Nat} (h : NIn w S m b) : Calls Tryz.prog 127 #[.pointer (some ⟨b, 0, none⟩)] w fun e w' => e = .returned (.string (vS m.isVal)) ∧ w = w' := by
  obtain ⟨hd, hc, hv⟩ := h.head
  have := sort_any hd b w hc
  rw [show sortS hd = vS m.isVal by rw [hv, sortS]; cases isValHead hd.toList <;> rfl] at this
  exact this
/-- What the reading of a part as a term is asked for. -/
def TmAsk (w0 : World) (p : Tree) (h : Hd) : Prop := ∀ (ar : List ByteArray) (q : Option Addr) (n c : Nat) (W : World), Kept w0 W → w0.heap.size ≤ W.heap.size → SV W q n c ar → n + p.wt ≤ 12000 →
  Calls Tryz.prog 67 #[.agg #[.string h.a, .slice h.p h.l h.c], .slice q n c] W (TmPost (p.tm ar) W)
/-- The world behind the two lists put together. -/
theorem kid_frame {w w2 : World} {o1 o2 : Obj} (hb2 : Below (((w.alloc o1).alloc o2).drew).heap.size (((w.alloc o1).alloc o2).drew) w2) : Below w.heap.size w w2 :=
  ((((Below.refl w.heap.size w).alloc (Nat.le_refl _) o1).alloc (by simp) o2).drew).trans (hb2.mono (by show w.heap.size ≤ ((w.alloc o1).alloc o2).heap.size; simp; omega))
/-- The part's own block behind that. -/
theorem kid_phrase {w w2 : World} {x y : Value} {t : TypeId} {o2 : Obj} (hb2 : Below (((w.alloc (.cells #[x, y] t)).alloc o2).drew).heap.size (((w.alloc (.cells #[x, y] t)).alloc o2).drew) w2) : w2.heap[w.heap.size]? = some (.cells #[x, y] t (0, 0)) :=
  (hb2.block w.heap.size (by show w.heap.size < ((w.alloc (.cells #[x, y] t)).alloc o2).heap.size; simp; omega)).trans (show ((w.alloc (.cells #[x, y] t)).alloc o2).heap[w.heap.size]? = _ from pair_alloc (heap_new w _ _ rfl) o2)
end Go.Proofs.YtagifgekhboinaaGreatDoor
