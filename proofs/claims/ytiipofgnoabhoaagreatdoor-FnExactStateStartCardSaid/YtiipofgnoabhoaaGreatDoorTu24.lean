/- Merged: AddK, AddP, TermP. -/
import Derived.Test.YtiipofgnoabhoaaGreatDoorTuSAddK1
import Derived.Test.YtiipofgnoabhoaaGreatDoorTuSAddK2
namespace Go.Proofs.YtiipofgnoabhoaaGreatDoor
open Go.RowKit

/-- THE PROGRAM's addKid. -/
theorem addKid_any {w0 : World} {p : Tree} {h : Hd} (ih : TmAsk w0 p h) (v : Bool) (b : Nat) (hd : ByteArray) (st : St) (ar : List ByteArray) (q : Option Addr) (n c : Nat) (w : World) (hst : Bld w b hd st) (hk : Kept w0 w) (hw : w0.heap.size ≤ w.heap.size) (hv : SV w q n c ar) (hn : n + st.binds.length + p.wt ≤ 12000) (hkn : st.kids.length ≤ 1000) :
    Calls Tryz.prog 226 #[.pointer (some ⟨b, 0, none⟩), .agg #[.string h.a, .slice h.p h.l h.c], .string (vS v), .slice q n c] w (PartPost (addK v (p.tm (ar ++ st.binds)) st) b hd w) := by
  cases ho : p.tm (ar ++ st.binds) with
  | none =>
    rw [← ho]
    cases v with
    | true => exact addKid_none_true ih b hd st ar q n c w hst hk hw hv hn ho
    | false => exact addKid_none_false ih b hd st ar q n c w hst hk hw hv hn ho
  | some m =>
    rw [← ho]
    cases v with
    | true =>
      cases hm : m.isVal with
      | true => exact addKid_true_true ih b hd st ar q n c w hst hk hw hv hn m ho hm hkn
      | false => exact addKid_true_false ih b hd st ar q n c w hst hk hw hv hn m ho hm
    | false =>
      cases hm : m.isVal with
      | true => exact addKid_false_true ih b hd st ar q n c w hst hk hw hv hn m ho hm
      | false => exact addKid_false_false ih b hd st ar q n c w hst hk hw hv hn m ho hm hkn
end Go.Proofs.YtiipofgnoabhoaaGreatDoor

namespace Go.Proofs.YtiipofgnoabhoaaGreatDoor
open Go.RowKit

/-- One part, by its sign. -/
def add1 (ar : List ByteArray) (c : Sg) (p : Tree) (st : St) : Option St := match c with
  | .X => addX p.text st
  | .A => addT true p st
  | .C => addT false p st
  | .V => addK true (p.tm (ar ++ st.binds)) st
  | .M => addK false (p.tm (ar ++ st.binds)) st
theorem parts_cons (ar : List ByteArray) (c : Sg) (cs : List Sg) (p : Tree) (ps : List Tree) (st : St) : Tree.parts ar (c :: cs) (p :: ps) st = match add1 ar c p st with
    | some st' => Tree.parts ar cs ps st'
    | none => none := by
  cases c <;> rw [Tree.parts] <;> rfl
theorem PartPost.behind {o : Option St} {b : Nat} {hd : ByteArray} {w w1 w2 : World} {e : Ending} (h : PartPost o b hd w1 e w2) (hb : Below b w w1) : PartPost o b hd w e w2 := ⟨hb.trans h.1, h.2⟩
theorem PartPost.bool {o : Option St} {b : Nat} {hd : ByteArray} {w w2 : World} {e : Ending} (h : PartPost o b hd w e w2) : e = .returned (.bool o.isSome) ∧ PartPost o b hd w (.returned (.bool o.isSome)) w2 := by
  cases o with
  | none => have := h.none; exact ⟨this.1, this.1 ▸ h⟩
  | some st => have := h.some; exact ⟨this.1, this.1 ▸ h⟩

set_option maxRecDepth 100000 in
set_option maxHeartbeats 2000000 in
theorem addPart_X {w0 : World} {S : Nat → Prop} {p : Tree} {h : Hd} (ht : TIn w0 S p h) (hok : p.ok) (b : Nat) (hd : ByteArray) (st : St) (q : Option Addr) (n cc : Nat) (w : World) (hst : Bld w b hd st) (hbn : st.binds.length ≤ 1000) :
    Calls Tryz.prog 197 #[.pointer (some ⟨b, 0, none⟩), .int .u8 120, .agg #[.string h.a, .slice h.p h.l h.c], .slice q n cc] w (PartPost (addX p.text st) b hd w) := by
  obtain ⟨hlt, H1⟩ : b < w.heap.size ∧ Hid (∀ (o : Obj), Bld (w.alloc o) b hd st) := by
    obtain ⟨bp, bl, bc, kp, kl, kc, A, H0⟩ := hst
    exact ⟨lt_of_block H0.heap, fun o => ⟨bp, bl, bc, kp, kl, kc, A, H0.under ((Below.refl _ _).alloc (Nat.le_refl _) _)⟩⟩
  have hB := hid (fun (o : Obj) => (((Below.refl w.heap.size w).alloc (Nat.le_refl _) o).mono (show b ≤ w.heap.size by omega)))
  have HX := hid (fun W (hb : Bld W b hd st) => addBound_any h.a (by rw [ht.text]; have := (text_ok hok).1; omega) b hd st W hb hbn)
  rw [← ht.text]
  obtain ⟨O, hO⟩ : ∃ O, addX h.a st = O := ⟨_, rfl⟩
  rw [hO] at HX ⊢
  clear ht hok hst hO
  obtain ⟨pa, pp, pl, pc⟩ := h
  go_enter Tryz.func197, Tryz.ntmps197
  go_wp2_with (go_at_call 224; refine (HX.out _ (H1.out _)).mono ?_; rintro e w1 hp; obtain ⟨rfl, hq⟩ := hp.bool; have HP := hid (hq.behind (hB.out _)); clear hp hq)
  go_ret
  exact HP.out

set_option maxRecDepth 100000 in
set_option maxHeartbeats 2000000 in
theorem addPart_A {w0 : World} {S : Nat → Prop} {p : Tree} {h : Hd} (ht : TIn w0 S p h) (hwt : p.wt ≤ 12000) (hok : p.ok) (b : Nat) (hd : ByteArray) (st : St) (q : Option Addr) (n cc : Nat) (w : World) (hst : Bld w b hd st) (hk : Kept w0 w) (hw : w0.heap.size ≤ w.heap.size)  :
    Calls Tryz.prog 197 #[.pointer (some ⟨b, 0, none⟩), .int .u8 65, .agg #[.string h.a, .slice h.p h.l h.c], .slice q n cc] w (PartPost (addT true p st) b hd w) := by
  obtain ⟨hlt, H1⟩ : b < w.heap.size ∧ Hid (∀ (o : Obj), Bld (w.alloc o) b hd st) := by
    obtain ⟨bp, bl, bc, kp, kl, kc, A, H0⟩ := hst
    exact ⟨lt_of_block H0.heap, fun o => ⟨bp, bl, bc, kp, kl, kc, A, H0.under ((Below.refl _ _).alloc (Nat.le_refl _) _)⟩⟩
  have HK := hid (fun o => hk.alloc hw o)
  have hB := hid (fun (o : Obj) => (((Below.refl w.heap.size w).alloc (Nat.le_refl _) o).mono (show b ≤ w.heap.size by omega)))
  have HX := hid (fun W (hb : Bld W b hd st) hk hw => addType_any ht hwt hok true b hd st W hb hk hw)
  obtain ⟨O, hO⟩ : ∃ O, addT true p st = O := ⟨_, rfl⟩
  rw [hO] at HX ⊢
  clear ht hok hst hk hO
  obtain ⟨pa, pp, pl, pc⟩ := h
  go_enter Tryz.func197, Tryz.ntmps197
  go_wp2_with (go_at_call 225; refine (HX.out _ (H1.out _) (HK.out _) (by simp; omega)).mono ?_; rintro e w1 hp; obtain ⟨rfl, hq⟩ := hp.bool; have HP := hid (hq.behind (hB.out _)); clear hp hq)
  go_ret
  exact HP.out

set_option maxRecDepth 100000 in
set_option maxHeartbeats 2000000 in
theorem addPart_C {w0 : World} {S : Nat → Prop} {p : Tree} {h : Hd} (ht : TIn w0 S p h) (hwt : p.wt ≤ 12000) (hok : p.ok) (b : Nat) (hd : ByteArray) (st : St) (q : Option Addr) (n cc : Nat) (w : World) (hst : Bld w b hd st) (hk : Kept w0 w) (hw : w0.heap.size ≤ w.heap.size)  :
    Calls Tryz.prog 197 #[.pointer (some ⟨b, 0, none⟩), .int .u8 67, .agg #[.string h.a, .slice h.p h.l h.c], .slice q n cc] w (PartPost (addT false p st) b hd w) := by
  obtain ⟨hlt, H1⟩ : b < w.heap.size ∧ Hid (∀ (o : Obj), Bld (w.alloc o) b hd st) := by
    obtain ⟨bp, bl, bc, kp, kl, kc, A, H0⟩ := hst
    exact ⟨lt_of_block H0.heap, fun o => ⟨bp, bl, bc, kp, kl, kc, A, H0.under ((Below.refl _ _).alloc (Nat.le_refl _) _)⟩⟩
  have HK := hid (fun o => hk.alloc hw o)
  have hB := hid (fun (o : Obj) => (((Below.refl w.heap.size w).alloc (Nat.le_refl _) o).mono (show b ≤ w.heap.size by omega)))
  have HX := hid (fun W (hb : Bld W b hd st) hk hw => addType_any ht hwt hok false b hd st W hb hk hw)
  obtain ⟨O, hO⟩ : ∃ O, addT false p st = O := ⟨_, rfl⟩
  rw [hO] at HX ⊢
  clear ht hok hst hk hO
  obtain ⟨pa, pp, pl, pc⟩ := h
  go_enter Tryz.func197, Tryz.ntmps197
  go_wp2_with (go_at_call 225; refine (HX.out _ (H1.out _) (HK.out _) (by simp; omega)).mono ?_; rintro e w1 hp; obtain ⟨rfl, hq⟩ := hp.bool; have HP := hid (hq.behind (hB.out _)); clear hp hq)
  go_ret
  exact HP.out

set_option maxRecDepth 100000 in
set_option maxHeartbeats 2000000 in
theorem addPart_V {w0 : World} {p : Tree} {h : Hd} (ih : TmAsk w0 p h) (b : Nat) (hd : ByteArray) (st : St) (ar : List ByteArray) (q : Option Addr) (n cc : Nat) (w : World) (hst : Bld w b hd st) (hk : Kept w0 w) (hw : w0.heap.size ≤ w.heap.size) (hv : SV w q n cc ar)
    (hn : n + st.binds.length + p.wt ≤ 12000) (hkn : st.kids.length ≤ 1000) :
    Calls Tryz.prog 197 #[.pointer (some ⟨b, 0, none⟩), .int .u8 86, .agg #[.string h.a, .slice h.p h.l h.c], .slice q n cc] w (PartPost (addK true (p.tm (ar ++ st.binds)) st) b hd w) := by
  obtain ⟨hlt, H1⟩ : b < w.heap.size ∧ Hid (∀ (o : Obj), Bld (w.alloc o) b hd st) := by
    obtain ⟨bp, bl, bc, kp, kl, kc, A, H0⟩ := hst
    exact ⟨lt_of_block H0.heap, fun o => ⟨bp, bl, bc, kp, kl, kc, A, H0.under ((Below.refl _ _).alloc (Nat.le_refl _) _)⟩⟩
  have HK := hid (fun o => hk.alloc hw o)
  have hB := hid (fun (o : Obj) => (((Below.refl w.heap.size w).alloc (Nat.le_refl _) o).mono (show b ≤ w.heap.size by omega)))
  have HX := hid (fun W (hb : Bld W b hd st) hk hw hv => addKid_any ih true b hd st ar q n cc W hb hk hw hv hn hkn)
  have HV := hid (fun o => hv.kept ((Kept.refl w).alloc (Nat.le_refl _) o))
  obtain ⟨O, hO⟩ : ∃ O, addK true (p.tm (ar ++ st.binds)) st = O := ⟨_, rfl⟩
  rw [hO] at HX ⊢
  clear ih hst hk hv hO
  obtain ⟨pa, pp, pl, pc⟩ := h
  go_enter Tryz.func197, Tryz.ntmps197
  go_wp2_with (go_at_call 226; refine (HX.out _ (H1.out _) (HK.out _) (by simp; omega) (HV.out _)).mono ?_; rintro e w1 hp; obtain ⟨rfl, hq⟩ := hp.bool; have HP := hid (hq.behind (hB.out _)); clear hp hq)
  go_ret
  exact HP.out

set_option maxRecDepth 100000 in
set_option maxHeartbeats 2000000 in
theorem addPart_M {w0 : World} {p : Tree} {h : Hd} (ih : TmAsk w0 p h) (b : Nat) (hd : ByteArray) (st : St) (ar : List ByteArray) (q : Option Addr) (n cc : Nat) (w : World) (hst : Bld w b hd st) (hk : Kept w0 w) (hw : w0.heap.size ≤ w.heap.size) (hv : SV w q n cc ar)
    (hn : n + st.binds.length + p.wt ≤ 12000) (hkn : st.kids.length ≤ 1000) :
    Calls Tryz.prog 197 #[.pointer (some ⟨b, 0, none⟩), .int .u8 77, .agg #[.string h.a, .slice h.p h.l h.c], .slice q n cc] w (PartPost (addK false (p.tm (ar ++ st.binds)) st) b hd w) := by
  obtain ⟨hlt, H1⟩ : b < w.heap.size ∧ Hid (∀ (o : Obj), Bld (w.alloc o) b hd st) := by
    obtain ⟨bp, bl, bc, kp, kl, kc, A, H0⟩ := hst
    exact ⟨lt_of_block H0.heap, fun o => ⟨bp, bl, bc, kp, kl, kc, A, H0.under ((Below.refl _ _).alloc (Nat.le_refl _) _)⟩⟩
  have HK := hid (fun o => hk.alloc hw o)
  have hB := hid (fun (o : Obj) => (((Below.refl w.heap.size w).alloc (Nat.le_refl _) o).mono (show b ≤ w.heap.size by omega)))
  have HX := hid (fun W (hb : Bld W b hd st) hk hw hv => addKid_any ih false b hd st ar q n cc W hb hk hw hv hn hkn)
  have HV := hid (fun o => hv.kept ((Kept.refl w).alloc (Nat.le_refl _) o))
  obtain ⟨O, hO⟩ : ∃ O, addK false (p.tm (ar ++ st.binds)) st = O := ⟨_, rfl⟩
  rw [hO] at HX ⊢
  clear ih hst hk hv hO
  obtain ⟨pa, pp, pl, pc⟩ := h
  go_enter Tryz.func197, Tryz.ntmps197
  go_wp2_with (go_at_call 226; refine (HX.out _ (H1.out _) (HK.out _) (by simp; omega) (HV.out _)).mono ?_; rintro e w1 hp; obtain ⟨rfl, hq⟩ := hp.bool; have HP := hid (hq.behind (hB.out _)); clear hp hq)
  go_ret
  exact HP.out

theorem addPart_any {w0 : World} {S : Nat → Prop} {p : Tree} {h : Hd} (ht : TIn w0 S p h) (hwt : p.wt ≤ 12000) (hok : p.ok) (ih : TmAsk w0 p h) (b : Nat) (hd : ByteArray) (st : St) (ar : List ByteArray) (q : Option Addr) (n cc : Nat) (w : World) (hst : Bld w b hd st) (hk : Kept w0 w) (hw : w0.heap.size ≤ w.heap.size) (hv : SV w q n cc ar)
    (hn : n + st.binds.length + p.wt ≤ 12000) (hkn : st.kids.length ≤ 1000) (hbn : st.binds.length ≤ 1000) (c : Sg) :
    Calls Tryz.prog 197 #[.pointer (some ⟨b, 0, none⟩), .int .u8 (c.up.toNat : Int), .agg #[.string h.a, .slice h.p h.l h.c], .slice q n cc] w (PartPost (add1 ar c p st) b hd w) := by
  cases c with
  | X => exact addPart_X ht hok b hd st q n cc w hst hbn
  | A => exact addPart_A ht hwt hok b hd st q n cc w hst hk hw
  | C => exact addPart_C ht hwt hok b hd st q n cc w hst hk hw
  | V => exact addPart_V ih b hd st ar q n cc w hst hk hw hv hn hkn
  | M => exact addPart_M ih b hd st ar q n cc w hst hk hw hv hn hkn

set_option maxRecDepth 100000 in
set_option maxHeartbeats 1000000 in
theorem termOfAtom_any (s : ByteArray) (hs : s.size ≤ 400000000) (ar : List ByteArray) (q : Option Addr) (n c : Nat) (w : World) (hv : SV w q n c ar) (hn : n ≤ 100000) :
    Calls Tryz.prog 195 #[.string s, .slice q n c] w (TmPost (atomTm ar s) w) := by
  have HN := hid (fun W => isName_any s hs W)
  have HD := hid (fun W (hk : Kept w W) => depthOf_any s ar q n c W (hv.kept hk) hn)
  clear hv
  cases e0 : s.toList == [48] with
  | true =>
    have HA := hid (show atomTm ar s = some (.mk strBit s (-1) [] none []) by rw [atomTm, if_pos (Or.inl (eq_t e0))])
    go_enter Tryz.func195, Tryz.ntmps195
    go_wp2_with fail
    go_ret2
    rw [HA.out]
    exact ⟨(Below.refl _ _).alloc (Nat.le_refl _) _, w.heap.size, rfl, leaf_in (heap_new _ _ _ rfl) (Nat.le_refl _)⟩
  | false =>
    cases e1 : s.toList == [49] with
    | true =>
      have HA := hid (show atomTm ar s = some (.mk strBit s (-1) [] none []) by rw [atomTm, if_pos (Or.inr (eq_t e1))])
      go_enter Tryz.func195, Tryz.ntmps195
      go_wp2_with fail
      go_ret2
      rw [HA.out]
      exact ⟨(Below.refl _ _).alloc (Nat.le_refl _) _, w.heap.size, rfl, leaf_in (heap_new _ _ _ rfl) (Nat.le_refl _)⟩
    | false =>
      have hno : ¬ (s.toList = [48] ∨ s.toList = [49]) := by
        simp only [beq_eq_false_iff_ne, ne_eq] at e0 e1
        exact fun h => h.elim e0 e1
      cases hnm : nameB s.toList with
      | false =>
        have HA := hid (show atomTm ar s = none by rw [atomTm, if_neg hno, if_neg (by rw [hnm]; simp)])
        rw [hnm] at HN
        clear hnm hno
        go_enter Tryz.func195, Tryz.ntmps195
        go_wp2_with (go_at_call 110; refine (HN.out _).mono ?_; rintro e w1 ⟨rfl, hb1⟩)
        go_ret2
        rw [HA.out]
        exact ⟨hb1, rfl⟩
      | true =>
        have HA := hid (show atomTm ar s = some (.mk strName s (depthIn s.toList ar) [] none []) by rw [atomTm, if_neg hno, if_pos hnm])
        rw [hnm] at HN
        obtain ⟨D, hD⟩ : ∃ D, depthIn s.toList ar = D := ⟨_, rfl⟩
        rw [hD] at HA HD
        clear hnm hno hD
        go_enter Tryz.func195, Tryz.ntmps195
        go_wp2_with (first | (go_at_call 110; refine (HN.out _).mono ?_; rintro e w1 ⟨rfl, hb1⟩) | (go_at_call 223; refine (HD.out _ (Kept.of_below hb1 (Nat.le_refl _))).mono ?_; rintro e w2 ⟨rfl, rfl⟩))
        go_ret2
        rw [HA.out]
        have hz := hb1.size
        exact ⟨hb1.alloc hz _, w1.heap.size, rfl, leaf_in (heap_new _ _ _ rfl) hz⟩
end Go.Proofs.YtiipofgnoabhoaaGreatDoor

namespace Go.Proofs.YtiipofgnoabhoaaGreatDoor
open Go.RowKit

theorem add1_len {ar : List ByteArray} {c : Sg} {p : Tree} {st st' : St} (h : add1 ar c p st = some st') : st'.binds.length ≤ st.binds.length + 1 ∧ st'.binds.length + st'.kids.length ≤ st.binds.length + st.kids.length + 1 := by
  cases c with
  | X => obtain ⟨_, e⟩ := addX_inv h; rw [e]; simp; omega
  | A => obtain ⟨_, _, e⟩ := addT_inv h; rw [e]; simp
  | C => obtain ⟨_, _, e⟩ := addT_inv h; rw [e]; simp
  | V => obtain ⟨_, _, e⟩ := addK_inv h; rw [e]; simp; omega
  | M => obtain ⟨_, _, e⟩ := addK_inv h; rw [e]; simp; omega
theorem upS_size (l : List Sg) : (upS l).size = l.length := by simp [upS, ByteArray.size]
theorem upS_get (l : List Sg) (i : Nat) (c : Sg) (h : l[i]? = some c) (hi : i < (upS l).size) : (upS l)[i] = c.up := by
  have h1 := toList_get (upS l) i hi
  rw [Go.ByteArray.toList_eq] at h1
  simp [upS, h] at h1
  exact h1.symm
theorem wts_drop (l : List Tree) (i : Nat) (p : Tree) (h : l[i]? = some p) : Tree.wts (l.drop i) = p.wt + Tree.wts (l.drop (i + 1)) := by
  have hi := (List.getElem?_eq_some_iff.1 h)
  rw [List.drop_eq_getElem_cons hi.1, Tree.wts, hi.2]
theorem tm_no {ar : List ByteArray} {q : Tree} {qs : List Tree} (h : shape q.text.toList = [] ∨ (shape q.text.toList).length ≠ qs.length) : Tree.tm ar (.node (q :: qs)) = none := by
  rw [Tree.tm, if_pos h]
theorem tm_go {ar : List ByteArray} {q : Tree} {qs : List Tree} (h0 : shape q.text.toList ≠ []) (h : (shape q.text.toList).length = qs.length) {R : Option St} (hR : Tree.parts ar (shape q.text.toList) qs St.none = R) :
    Tree.tm ar (.node (q :: qs)) = R.map fun st => .mk q.text ByteArray.empty 0 st.binds st.ty st.kids := by
  rw [Tree.tm, if_neg (fun hh => hh.elim h0 (fun e => e h)), hR]
  cases R <;> rfl

set_option maxRecDepth 100000 in
set_option maxHeartbeats 1000000 in
theorem term_atom (w0 : World) (s : ByteArray) (_hne : s.size ≠ 0) (hm : s.size ≤ 400000000) : TmAsk w0 (.atom s) ⟨s, none, 0, 0⟩ := by
  intro ar q n c w hk hw hv hn
  have HA := hid (fun W (hk : Kept w W) => termOfAtom_any s hm ar q n c W (hv.kept hk) (by omega))
  clear hv hk
  rw [Tree.tm]
  obtain ⟨O, hO⟩ : ∃ O, atomTm ar s = O := ⟨_, rfl⟩
  rw [hO] at HA ⊢
  clear hO
  cases O with
  | none =>
    go_enter Tryz.func159, Tryz.ntmps159
    go_wp2_with (go_at_call 195; refine (HA.out _ ((Kept.refl w).alloc (Nat.le_refl _) _)).mono ?_; rintro e w1 hp; obtain ⟨rfl, hb1⟩ := hp.none; clear hp)
    go_ret2
    exact ⟨((Below.refl _ _).alloc (Nat.le_refl _) _).trans (hb1.mono (by simp)), rfl⟩
  | some m =>
    go_enter Tryz.func159, Tryz.ntmps159
    go_wp2_with (go_at_call 195; refine (HA.out _ ((Kept.refl w).alloc (Nat.le_refl _) _)).mono ?_; rintro e w1 hp; obtain ⟨a, rfl, hb1, hn1⟩ := hp.some; have HN1 := hid hn1; clear hp hn1)
    go_ret2
    exact ⟨((Below.refl _ _).alloc (Nat.le_refl _) _).trans (hb1.mono (by simp)), a, rfl, HN1.out.keep (fun _ _ _ => rfl) (fun k hk _ => by simp at hk; omega)⟩

set_option maxRecDepth 100000 in
set_option maxHeartbeats 2000000 in
theorem term_no {w0 : World} {q : Tree} {qs : List Tree} {b cap n : Nat} {A : Nat → Hd} (hn : qs.length = n) (hl : n + 1 ≤ cap) (hc : cap ≤ maxLen) (hn2 : n ≤ 12000) (hq : (A 0).a = q.text) (c0 : w0.cell? ⟨b, 0, none⟩ = some (.string (A 0).a)) (ar : List ByteArray) (p : Option Addr) (na c : Nat) (w : World) (hk : Kept w0 w)
    (hno : shape q.text.toList = [] ∨ (shape q.text.toList).length ≠ qs.length) :
    Calls Tryz.prog 159 #[.agg #[.string ByteArray.empty, .slice (some ⟨b, 0, none⟩) (n + 1) cap], .slice p na c] w (TmPost (Tree.tm ar (.node (q :: qs))) w) := by
  rw [tm_no hno]
  have c1 := hk.cell c0
  have HF := hid (fun W => (formOf_any (A 0).a W).mono fun e w' h => (⟨h.1, h.2.symm⟩ : _ ∧ w' = W))
  rw [hq] at HF c1
  have hsz := upS_size (shape q.text.toList)
  obtain ⟨F, hF⟩ : ∃ F, upS (shape q.text.toList) = F := ⟨_, rfl⟩
  rw [hF] at HF hsz
  have c2 : ∀ o, (w.alloc o).cell? ⟨b, 0, none⟩ = some (.string q.text) := fun o => (World.cell?_of_block (w := w) (heap_alloc_old w o (World.block_lt_of_cell? w _ c1))).trans c1
  have d0 : ((n : Int) + 1 == 0) = false := beq_eq_false_iff_ne.2 (by omega)
  unfold maxLen at hc
  have hwn : w.heap.size ≤ w.heap.size := Nat.le_refl _
  clear hk c0 hq hF
  by_cases he : F.size = 0
  · have f1 := isEmpty_of F he
    clear hno hsz he
    by_cases hcap : cap = 1
    · obtain rfl : n = 0 := by omega
      subst hcap
      go_enter Tryz.func159, Tryz.ntmps159
      go_wp2_with fail
      go_quiet ((go_at_call 196; exact Calls.quiet_of_same (HF.out _)))
      go_wp2_with fail
      go_ret2
      exact ⟨below_drewN (((Below.refl _ _).alloc (by simp) _).alloc (by simp) _) _, rfl⟩
    · go_enter Tryz.func159, Tryz.ntmps159
      go_wp2_with fail
      go_quiet ((go_at_call 196; exact Calls.quiet_of_same (HF.out _)))
      go_wp2_with fail
      go_ret2
      exact ⟨below_drewN (((Below.refl _ _).alloc (by simp) _).alloc (by simp) _) _, rfl⟩
  · have f1 := isEmpty_not F he
    have f2 : ((F.size : Int) != (n : Int)) = true := by
      refine bne_iff_ne.2 ?_
      rcases hno with h | h
      · rw [h, List.length_nil] at hsz; omega
      · omega
    have f3 : F.size ≤ 9223372036854775807 := by
      have := shape_mem q.text.toList
      have : (shape q.text.toList).length ≤ 4 := by
        rcases this with ⟨_, e⟩ | ⟨_, e⟩
        · rw [e]; decide
        · rcases e with e | e | e | e | e | e | e | e | e | e | e | e <;> (rw [e]; decide)
      omega
    clear hno hsz he
    by_cases hcap : cap = 1
    · obtain rfl : n = 0 := by omega
      subst hcap
      go_enter Tryz.func159, Tryz.ntmps159
      go_wp2_with fail
      go_quiet ((go_at_call 196; exact Calls.quiet_of_same (HF.out _)))
      go_wp2_with fail
      go_ret2
      exact ⟨below_drewN (((Below.refl _ _).alloc (by simp) _).alloc (by simp) _) _, rfl⟩
    · go_enter Tryz.func159, Tryz.ntmps159
      go_wp2_with fail
      go_quiet ((go_at_call 196; exact Calls.quiet_of_same (HF.out _)))
      go_wp2_with fail
      go_ret2
      exact ⟨below_drewN (((Below.refl _ _).alloc (by simp) _).alloc (by simp) _) _, rfl⟩
end Go.Proofs.YtiipofgnoabhoaaGreatDoor
