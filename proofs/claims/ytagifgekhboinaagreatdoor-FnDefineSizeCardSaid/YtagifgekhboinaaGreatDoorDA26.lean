/- Merged: AddK, AddP, TermP, TermQ, TermR, SortF, SortG, SortH, SizeP0. -/
import Derived.Test.YtagifgekhboinaaGreatDoorDASAddK1
import Derived.Test.YtagifgekhboinaaGreatDoorDASAddK2
import Derived.Test.YtagifgekhboinaaGreatDoorDA9
import Derived.Test.YtagifgekhboinaaGreatDoorDA18
import Derived.Test.YtagifgekhboinaaGreatDoorDASNamesS
namespace Go.Proofs.YtagifgekhboinaaGreatDoor
open Go.RowKit

/-- THE PROGRAM's addKid. -/
theorem addKid_any {w0 : World} {p : Tree} {h : Hd} (ih : TmAsk w0 p h) (v : Bool) (b : Nat) (hd : ByteArray) (st : St) (ar : List ByteArray) (q : Option Addr) (n c : Nat) (w : World) (hst : Bld w b hd st) (hk : Kept w0 w) (hw : w0.heap.size ≤ w.heap.size) (hv : SV w q n c ar) (hn : n + st.binds.length + p.wt ≤ 12000) (hkn : st.kids.length ≤ 1000) :
    Calls Tryz.prog 111 #[.pointer (some ⟨b, 0, none⟩), .agg #[.string h.a, .slice h.p h.l h.c], .string (vS v), .slice q n c] w (PartPost (addK v (p.tm (ar ++ st.binds)) st) b hd w) := by
  cases ho : p.tm (ar ++ st.binds) with
  | none =>
    rw [← ho]
    cases v with
    | true => exact addKid_none_true ih b hd st ar q n c w hst hk hw hv hn ho
    | false => exact addKid_none_false ih b hd st ar q n c w hst hk hw hv hn ho
  | some m =>
    rw [← ho]
    cases v with
    | true =>
      cases hm : m.isVal with
      | true => exact addKid_true_true ih b hd st ar q n c w hst hk hw hv hn m ho hm hkn
      | false => exact addKid_true_false ih b hd st ar q n c w hst hk hw hv hn m ho hm
    | false =>
      cases hm : m.isVal with
      | true => exact addKid_false_true ih b hd st ar q n c w hst hk hw hv hn m ho hm
      | false => exact addKid_false_false ih b hd st ar q n c w hst hk hw hv hn m ho hm hkn
end Go.Proofs.YtagifgekhboinaaGreatDoor

namespace Go.Proofs.YtagifgekhboinaaGreatDoor
open Go.RowKit

/-- One part, by its sign. -/
def add1 (ar : List ByteArray) (c : Sg) (p : Tree) (st : St) : Option St := match c with
  | .X => addX p.text st
  | .A => addT true p st
  | .C => addT false p st
  | .V => addK true (p.tm (ar ++ st.binds)) st
  | .M => addK false (p.tm (ar ++ st.binds)) st
theorem parts_cons (ar : List ByteArray) (c : Sg) (cs : List Sg) (p : Tree) (ps : List Tree) (st : St) : Tree.parts ar (c :: cs) (p :: ps) st = match add1 ar c p st with
    | some st' => Tree.parts ar cs ps st'
    | none => none := by
  cases c <;> rw [Tree.parts] <;> rfl
theorem PartPost.behind {o : Option St} {b : Nat} {hd : ByteArray} {w w1 w2 : World} {e : Ending} (h : PartPost o b hd w1 e w2) (hb : Below b w w1) : PartPost o b hd w e w2 := ⟨hb.trans h.1, h.2⟩
theorem PartPost.bool {o : Option St} {b : Nat} {hd : ByteArray} {w w2 : World} {e : Ending} (h : PartPost o b hd w e w2) : e = .returned (.bool o.isSome) ∧ PartPost o b hd w (.returned (.bool o.isSome)) w2 := by
  cases o with
  | none => have := h.none; exact ⟨this.1, this.1 ▸ h⟩
  | some st => have := h.some; exact ⟨this.1, this.1 ▸ h⟩

set_option maxRecDepth 100000 in
set_option maxHeartbeats 2000000 in
theorem addPart_X {w0 : World} {S : Nat → Prop} {p : Tree} {h : Hd} (ht : TIn w0 S p h) (hok : p.ok) (b : Nat) (hd : ByteArray) (st : St) (q : Option Addr) (n cc : Nat) (w : World) (hst : Bld w b hd st) (hbn : st.binds.length ≤ 1000) :
    Calls Tryz.prog 92 #[.pointer (some ⟨b, 0, none⟩), .int .u8 120, .agg #[.string h.a, .slice h.p h.l h.c], .slice q n cc] w (PartPost (addX p.text st) b hd w) := by
  obtain ⟨hlt, H1⟩ : b < w.heap.size ∧ Hid (∀ (o : Obj), Bld (w.alloc o) b hd st) := by
    obtain ⟨bp, bl, bc, kp, kl, kc, A, H0⟩ := hst
    exact ⟨lt_of_block H0.heap, fun o => ⟨bp, bl, bc, kp, kl, kc, A, H0.under ((Below.refl _ _).alloc (Nat.le_refl _) _)⟩⟩
  have hB := hid (fun (o : Obj) => (((Below.refl w.heap.size w).alloc (Nat.le_refl _) o).mono (show b ≤ w.heap.size by omega)))
  have HX := hid (fun W (hb : Bld W b hd st) => addBound_any h.a (by rw [ht.text]; have := (text_ok hok).1; omega) b hd st W hb hbn)
  rw [← ht.text]
  obtain ⟨O, hO⟩ : ∃ O, addX h.a st = O := ⟨_, rfl⟩
  rw [hO] at HX ⊢
  clear ht hok hst hO
  obtain ⟨pa, pp, pl, pc⟩ := h
  go_enter Tryz.func92, Tryz.ntmps92
  go_wp2_with (go_at_call 109; refine (HX.out _ (H1.out _)).mono ?_; rintro e w1 hp; obtain ⟨rfl, hq⟩ := hp.bool; have HP := hid (hq.behind (hB.out _)); clear hp hq)
  go_ret
  exact HP.out

set_option maxRecDepth 100000 in
set_option maxHeartbeats 2000000 in
theorem addPart_A {w0 : World} {S : Nat → Prop} {p : Tree} {h : Hd} (ht : TIn w0 S p h) (hwt : p.wt ≤ 12000) (hok : p.ok) (b : Nat) (hd : ByteArray) (st : St) (q : Option Addr) (n cc : Nat) (w : World) (hst : Bld w b hd st) (hk : Kept w0 w) (hw : w0.heap.size ≤ w.heap.size)  :
    Calls Tryz.prog 92 #[.pointer (some ⟨b, 0, none⟩), .int .u8 65, .agg #[.string h.a, .slice h.p h.l h.c], .slice q n cc] w (PartPost (addT true p st) b hd w) := by
  obtain ⟨hlt, H1⟩ : b < w.heap.size ∧ Hid (∀ (o : Obj), Bld (w.alloc o) b hd st) := by
    obtain ⟨bp, bl, bc, kp, kl, kc, A, H0⟩ := hst
    exact ⟨lt_of_block H0.heap, fun o => ⟨bp, bl, bc, kp, kl, kc, A, H0.under ((Below.refl _ _).alloc (Nat.le_refl _) _)⟩⟩
  have HK := hid (fun o => hk.alloc hw o)
  have hB := hid (fun (o : Obj) => (((Below.refl w.heap.size w).alloc (Nat.le_refl _) o).mono (show b ≤ w.heap.size by omega)))
  have HX := hid (fun W (hb : Bld W b hd st) hk hw => addType_any ht hwt hok true b hd st W hb hk hw)
  obtain ⟨O, hO⟩ : ∃ O, addT true p st = O := ⟨_, rfl⟩
  rw [hO] at HX ⊢
  clear ht hok hst hk hO
  obtain ⟨pa, pp, pl, pc⟩ := h
  go_enter Tryz.func92, Tryz.ntmps92
  go_wp2_with (go_at_call 110; refine (HX.out _ (H1.out _) (HK.out _) (by simp; omega)).mono ?_; rintro e w1 hp; obtain ⟨rfl, hq⟩ := hp.bool; have HP := hid (hq.behind (hB.out _)); clear hp hq)
  go_ret
  exact HP.out

set_option maxRecDepth 100000 in
set_option maxHeartbeats 2000000 in
theorem addPart_C {w0 : World} {S : Nat → Prop} {p : Tree} {h : Hd} (ht : TIn w0 S p h) (hwt : p.wt ≤ 12000) (hok : p.ok) (b : Nat) (hd : ByteArray) (st : St) (q : Option Addr) (n cc : Nat) (w : World) (hst : Bld w b hd st) (hk : Kept w0 w) (hw : w0.heap.size ≤ w.heap.size)  :
    Calls Tryz.prog 92 #[.pointer (some ⟨b, 0, none⟩), .int .u8 67, .agg #[.string h.a, .slice h.p h.l h.c], .slice q n cc] w (PartPost (addT false p st) b hd w) := by
  obtain ⟨hlt, H1⟩ : b < w.heap.size ∧ Hid (∀ (o : Obj), Bld (w.alloc o) b hd st) := by
    obtain ⟨bp, bl, bc, kp, kl, kc, A, H0⟩ := hst
    exact ⟨lt_of_block H0.heap, fun o => ⟨bp, bl, bc, kp, kl, kc, A, H0.under ((Below.refl _ _).alloc (Nat.le_refl _) _)⟩⟩
  have HK := hid (fun o => hk.alloc hw o)
  have hB := hid (fun (o : Obj) => (((Below.refl w.heap.size w).alloc (Nat.le_refl _) o).mono (show b ≤ w.heap.size by omega)))
  have HX := hid (fun W (hb : Bld W b hd st) hk hw => addType_any ht hwt hok false b hd st W hb hk hw)
  obtain ⟨O, hO⟩ : ∃ O, addT false p st = O := ⟨_, rfl⟩
  rw [hO] at HX ⊢
  clear ht hok hst hk hO
  obtain ⟨pa, pp, pl, pc⟩ := h
  go_enter Tryz.func92, Tryz.ntmps92
  go_wp2_with (go_at_call 110; refine (HX.out _ (H1.out _) (HK.out _) (by simp; omega)).mono ?_; rintro e w1 hp; obtain ⟨rfl, hq⟩ := hp.bool; have HP := hid (hq.behind (hB.out _)); clear hp hq)
  go_ret
  exact HP.out

set_option maxRecDepth 100000 in
set_option maxHeartbeats 2000000 in
theorem addPart_V {w0 : World} {p : Tree} {h : Hd} (ih : TmAsk w0 p h) (b : Nat) (hd : ByteArray) (st : St) (ar : List ByteArray) (q : Option Addr) (n cc : Nat) (w : World) (hst : Bld w b hd st) (hk : Kept w0 w) (hw : w0.heap.size ≤ w.heap.size) (hv : SV w q n cc ar)
    (hn : n + st.binds.length + p.wt ≤ 12000) (hkn : st.kids.length ≤ 1000) :
    Calls Tryz.prog 92 #[.pointer (some ⟨b, 0, none⟩), .int .u8 86, .agg #[.string h.a, .slice h.p h.l h.c], .slice q n cc] w (PartPost (addK true (p.tm (ar ++ st.binds)) st) b hd w) := by
  obtain ⟨hlt, H1⟩ : b < w.heap.size ∧ Hid (∀ (o : Obj), Bld (w.alloc o) b hd st) := by
    obtain ⟨bp, bl, bc, kp, kl, kc, A, H0⟩ := hst
    exact ⟨lt_of_block H0.heap, fun o => ⟨bp, bl, bc, kp, kl, kc, A, H0.under ((Below.refl _ _).alloc (Nat.le_refl _) _)⟩⟩
  have HK := hid (fun o => hk.alloc hw o)
  have hB := hid (fun (o : Obj) => (((Below.refl w.heap.size w).alloc (Nat.le_refl _) o).mono (show b ≤ w.heap.size by omega)))
  have HX := hid (fun W (hb : Bld W b hd st) hk hw hv => addKid_any ih true b hd st ar q n cc W hb hk hw hv hn hkn)
  have HV := hid (fun o => hv.kept ((Kept.refl w).alloc (Nat.le_refl _) o))
  obtain ⟨O, hO⟩ : ∃ O, addK true (p.tm (ar ++ st.binds)) st = O := ⟨_, rfl⟩
  rw [hO] at HX ⊢
  clear ih hst hk hv hO
  obtain ⟨pa, pp, pl, pc⟩ := h
  go_enter Tryz.func92, Tryz.ntmps92
  go_wp2_with (go_at_call 111; refine (HX.out _ (H1.out _) (HK.out _) (by simp; omega) (HV.out _)).mono ?_; rintro e w1 hp; obtain ⟨rfl, hq⟩ := hp.bool; have HP := hid (hq.behind (hB.out _)); clear hp hq)
  go_ret
  exact HP.out

set_option maxRecDepth 100000 in
set_option maxHeartbeats 2000000 in
theorem addPart_M {w0 : World} {p : Tree} {h : Hd} (ih : TmAsk w0 p h) (b : Nat) (hd : ByteArray) (st : St) (ar : List ByteArray) (q : Option Addr) (n cc : Nat) (w : World) (hst : Bld w b hd st) (hk : Kept w0 w) (hw : w0.heap.size ≤ w.heap.size) (hv : SV w q n cc ar)
    (hn : n + st.binds.length + p.wt ≤ 12000) (hkn : st.kids.length ≤ 1000) :
    Calls Tryz.prog 92 #[.pointer (some ⟨b, 0, none⟩), .int .u8 77, .agg #[.string h.a, .slice h.p h.l h.c], .slice q n cc] w (PartPost (addK false (p.tm (ar ++ st.binds)) st) b hd w) := by
  obtain ⟨hlt, H1⟩ : b < w.heap.size ∧ Hid (∀ (o : Obj), Bld (w.alloc o) b hd st) := by
    obtain ⟨bp, bl, bc, kp, kl, kc, A, H0⟩ := hst
    exact ⟨lt_of_block H0.heap, fun o => ⟨bp, bl, bc, kp, kl, kc, A, H0.under ((Below.refl _ _).alloc (Nat.le_refl _) _)⟩⟩
  have HK := hid (fun o => hk.alloc hw o)
  have hB := hid (fun (o : Obj) => (((Below.refl w.heap.size w).alloc (Nat.le_refl _) o).mono (show b ≤ w.heap.size by omega)))
  have HX := hid (fun W (hb : Bld W b hd st) hk hw hv => addKid_any ih false b hd st ar q n cc W hb hk hw hv hn hkn)
  have HV := hid (fun o => hv.kept ((Kept.refl w).alloc (Nat.le_refl _) o))
  obtain ⟨O, hO⟩ : ∃ O, addK false (p.tm (ar ++ st.binds)) st = O := ⟨_, rfl⟩
  rw [hO] at HX ⊢
  clear ih hst hk hv hO
  obtain ⟨pa, pp, pl, pc⟩ := h
  go_enter Tryz.func92, Tryz.ntmps92
  go_wp2_with (go_at_call 111; refine (HX.out _ (H1.out _) (HK.out _) (by simp; omega) (HV.out _)).mono ?_; rintro e w1 hp; obtain ⟨rfl, hq⟩ := hp.bool; have HP := hid (hq.behind (hB.out _)); clear hp hq)
  go_ret
  exact HP.out

theorem addPart_any {w0 : World} {S : Nat → Prop} {p : Tree} {h : Hd} (ht : TIn w0 S p h) (hwt : p.wt ≤ 12000) (hok : p.ok) (ih : TmAsk w0 p h) (b : Nat) (hd : ByteArray) (st : St) (ar : List ByteArray) (q : Option Addr) (n cc : Nat) (w : World) (hst : Bld w b hd st) (hk : Kept w0 w) (hw : w0.heap.size ≤ w.heap.size) (hv : SV w q n cc ar)
    (hn : n + st.binds.length + p.wt ≤ 12000) (hkn : st.kids.length ≤ 1000) (hbn : st.binds.length ≤ 1000) (c : Sg) :
    Calls Tryz.prog 92 #[.pointer (some ⟨b, 0, none⟩), .int .u8 (c.up.toNat : Int), .agg #[.string h.a, .slice h.p h.l h.c], .slice q n cc] w (PartPost (add1 ar c p st) b hd w) := by
  cases c with
  | X => exact addPart_X ht hok b hd st q n cc w hst hbn
  | A => exact addPart_A ht hwt hok b hd st q n cc w hst hk hw
  | C => exact addPart_C ht hwt hok b hd st q n cc w hst hk hw
  | V => exact addPart_V ih b hd st ar q n cc w hst hk hw hv hn hkn
  | M => exact addPart_M ih b hd st ar q n cc w hst hk hw hv hn hkn

set_option maxRecDepth 100000 in
set_option maxHeartbeats 1000000 in
theorem termOfAtom_any (s : ByteArray) (hs : s.size ≤ 400000000) (ar : List ByteArray) (q : Option Addr) (n c : Nat) (w : World) (hv : SV w q n c ar) (hn : n ≤ 100000) :
    Calls Tryz.prog 90 #[.string s, .slice q n c] w (TmPost (atomTm ar s) w) := by
  have HN := hid (fun W => isName_any s hs W)
  have HD := hid (fun W (hk : Kept w W) => depthOf_any s ar q n c W (hv.kept hk) hn)
  clear hv
  cases e0 : s.toList == [48] with
  | true =>
    have HA := hid (show atomTm ar s = some (.mk strBit s (-1) [] none []) by rw [atomTm, if_pos (Or.inl (eq_t e0))])
    go_enter Tryz.func90, Tryz.ntmps90
    go_wp2_with fail
    go_ret2
    rw [HA.out]
    exact ⟨(Below.refl _ _).alloc (Nat.le_refl _) _, w.heap.size, rfl, leaf_in (heap_new _ _ _ rfl) (Nat.le_refl _)⟩
  | false =>
    cases e1 : s.toList == [49] with
    | true =>
      have HA := hid (show atomTm ar s = some (.mk strBit s (-1) [] none []) by rw [atomTm, if_pos (Or.inr (eq_t e1))])
      go_enter Tryz.func90, Tryz.ntmps90
      go_wp2_with fail
      go_ret2
      rw [HA.out]
      exact ⟨(Below.refl _ _).alloc (Nat.le_refl _) _, w.heap.size, rfl, leaf_in (heap_new _ _ _ rfl) (Nat.le_refl _)⟩
    | false =>
      have hno : ¬ (s.toList = [48] ∨ s.toList = [49]) := by
        simp only [beq_eq_false_iff_ne, ne_eq] at e0 e1
        exact fun h => h.elim e0 e1
      cases hnm : nameB s.toList with
      | false =>
        have HA := hid (show atomTm ar s = none by rw [atomTm, if_neg hno, if_neg (by rw [hnm]; simp)])
        rw [hnm] at HN
        clear hnm hno
        go_enter Tryz.func90, Tryz.ntmps90
        go_wp2_with (go_at_call 107; refine (HN.out _).mono ?_; rintro e w1 ⟨rfl, hb1⟩)
        go_ret2
        rw [HA.out]
        exact ⟨hb1, rfl⟩
      | true =>
        have HA := hid (show atomTm ar s = some (.mk strName s (depthIn s.toList ar) [] none []) by rw [atomTm, if_neg hno, if_pos hnm])
        rw [hnm] at HN
        obtain ⟨D, hD⟩ : ∃ D, depthIn s.toList ar = D := ⟨_, rfl⟩
        rw [hD] at HA HD
        clear hnm hno hD
        go_enter Tryz.func90, Tryz.ntmps90
        go_wp2_with (first | (go_at_call 107; refine (HN.out _).mono ?_; rintro e w1 ⟨rfl, hb1⟩) | (go_at_call 108; refine (HD.out _ (Kept.of_below hb1 (Nat.le_refl _))).mono ?_; rintro e w2 ⟨rfl, rfl⟩))
        go_ret2
        rw [HA.out]
        have hz := hb1.size
        exact ⟨hb1.alloc hz _, w1.heap.size, rfl, leaf_in (heap_new _ _ _ rfl) hz⟩
end Go.Proofs.YtagifgekhboinaaGreatDoor

namespace Go.Proofs.YtagifgekhboinaaGreatDoor
open Go.RowKit

theorem add1_len {ar : List ByteArray} {c : Sg} {p : Tree} {st st' : St} (h : add1 ar c p st = some st') : st'.binds.length ≤ st.binds.length + 1 ∧ st'.binds.length + st'.kids.length ≤ st.binds.length + st.kids.length + 1 := by
  cases c with
  | X => obtain ⟨_, e⟩ := addX_inv h; rw [e]; simp; omega
  | A => obtain ⟨_, _, e⟩ := addT_inv h; rw [e]; simp
  | C => obtain ⟨_, _, e⟩ := addT_inv h; rw [e]; simp
  | V => obtain ⟨_, _, e⟩ := addK_inv h; rw [e]; simp; omega
  | M => obtain ⟨_, _, e⟩ := addK_inv h; rw [e]; simp; omega
theorem upS_size (l : List Sg) : (upS l).size = l.length := by simp [upS, ByteArray.size]
theorem upS_get (l : List Sg) (i : Nat) (c : Sg) (h : l[i]? = some c) (hi : i < (upS l).size) : (upS l)[i] = c.up := by
  have h1 := toList_get (upS l) i hi
  rw [Go.ByteArray.toList_eq] at h1
  simp [upS, h] at h1
  exact h1.symm
theorem wts_drop (l : List Tree) (i : Nat) (p : Tree) (h : l[i]? = some p) : Tree.wts (l.drop i) = p.wt + Tree.wts (l.drop (i + 1)) := by
  have hi := (List.getElem?_eq_some_iff.1 h)
  rw [List.drop_eq_getElem_cons hi.1, Tree.wts, hi.2]
theorem tm_no {ar : List ByteArray} {q : Tree} {qs : List Tree} (h : shape q.text.toList = [] ∨ (shape q.text.toList).length ≠ qs.length) : Tree.tm ar (.node (q :: qs)) = none := by
  rw [Tree.tm, if_pos h]
theorem tm_go {ar : List ByteArray} {q : Tree} {qs : List Tree} (h0 : shape q.text.toList ≠ []) (h : (shape q.text.toList).length = qs.length) {R : Option St} (hR : Tree.parts ar (shape q.text.toList) qs St.none = R) :
    Tree.tm ar (.node (q :: qs)) = R.map fun st => .mk q.text ByteArray.empty 0 st.binds st.ty st.kids := by
  rw [Tree.tm, if_neg (fun hh => hh.elim h0 (fun e => e h)), hR]
  cases R <;> rfl

set_option maxRecDepth 100000 in
set_option maxHeartbeats 1000000 in
theorem term_atom (w0 : World) (s : ByteArray) (_hne : s.size ≠ 0) (hm : s.size ≤ 400000000) : TmAsk w0 (.atom s) ⟨s, none, 0, 0⟩ := by
  intro ar q n c w hk hw hv hn
  have HA := hid (fun W (hk : Kept w W) => termOfAtom_any s hm ar q n c W (hv.kept hk) (by omega))
  clear hv hk
  rw [Tree.tm]
  obtain ⟨O, hO⟩ : ∃ O, atomTm ar s = O := ⟨_, rfl⟩
  rw [hO] at HA ⊢
  clear hO
  cases O with
  | none =>
    go_enter Tryz.func67, Tryz.ntmps67
    go_wp2_with (go_at_call 90; refine (HA.out _ ((Kept.refl w).alloc (Nat.le_refl _) _)).mono ?_; rintro e w1 hp; obtain ⟨rfl, hb1⟩ := hp.none; clear hp)
    go_ret2
    exact ⟨((Below.refl _ _).alloc (Nat.le_refl _) _).trans (hb1.mono (by simp)), rfl⟩
  | some m =>
    go_enter Tryz.func67, Tryz.ntmps67
    go_wp2_with (go_at_call 90; refine (HA.out _ ((Kept.refl w).alloc (Nat.le_refl _) _)).mono ?_; rintro e w1 hp; obtain ⟨a, rfl, hb1, hn1⟩ := hp.some; have HN1 := hid hn1; clear hp hn1)
    go_ret2
    exact ⟨((Below.refl _ _).alloc (Nat.le_refl _) _).trans (hb1.mono (by simp)), a, rfl, HN1.out.keep (fun _ _ _ => rfl) (fun k hk _ => by simp at hk; omega)⟩

set_option maxRecDepth 100000 in
set_option maxHeartbeats 2000000 in
theorem term_no {w0 : World} {q : Tree} {qs : List Tree} {b cap n : Nat} {A : Nat → Hd} (hn : qs.length = n) (hl : n + 1 ≤ cap) (hc : cap ≤ maxLen) (hn2 : n ≤ 12000) (hq : (A 0).a = q.text) (c0 : w0.cell? ⟨b, 0, none⟩ = some (.string (A 0).a)) (ar : List ByteArray) (p : Option Addr) (na c : Nat) (w : World) (hk : Kept w0 w)
    (hno : shape q.text.toList = [] ∨ (shape q.text.toList).length ≠ qs.length) :
    Calls Tryz.prog 67 #[.agg #[.string ByteArray.empty, .slice (some ⟨b, 0, none⟩) (n + 1) cap], .slice p na c] w (TmPost (Tree.tm ar (.node (q :: qs))) w) := by
  rw [tm_no hno]
  have c1 := hk.cell c0
  have HF := hid (fun W => (formOf_any (A 0).a W).mono fun e w' h => (⟨h.1, h.2.symm⟩ : _ ∧ w' = W))
  rw [hq] at HF c1
  have hsz := upS_size (shape q.text.toList)
  obtain ⟨F, hF⟩ : ∃ F, upS (shape q.text.toList) = F := ⟨_, rfl⟩
  rw [hF] at HF hsz
  have c2 : ∀ o, (w.alloc o).cell? ⟨b, 0, none⟩ = some (.string q.text) := fun o => (World.cell?_of_block (w := w) (heap_alloc_old w o (World.block_lt_of_cell? w _ c1))).trans c1
  have d0 : ((n : Int) + 1 == 0) = false := beq_eq_false_iff_ne.2 (by omega)
  unfold maxLen at hc
  have hwn : w.heap.size ≤ w.heap.size := Nat.le_refl _
  clear hk c0 hq hF
  by_cases he : F.size = 0
  · have f1 := isEmpty_of F he
    clear hno hsz he
    by_cases hcap : cap = 1
    · obtain rfl : n = 0 := by omega
      subst hcap
      go_enter Tryz.func67, Tryz.ntmps67
      go_wp2_with fail
      go_quiet ((go_at_call 91; exact Calls.quiet_of_same (HF.out _)))
      go_wp2_with fail
      go_ret2
      exact ⟨below_drewN (((Below.refl _ _).alloc (by simp) _).alloc (by simp) _) _, rfl⟩
    · go_enter Tryz.func67, Tryz.ntmps67
      go_wp2_with fail
      go_quiet ((go_at_call 91; exact Calls.quiet_of_same (HF.out _)))
      go_wp2_with fail
      go_ret2
      exact ⟨below_drewN (((Below.refl _ _).alloc (by simp) _).alloc (by simp) _) _, rfl⟩
  · have f1 := isEmpty_not F he
    have f2 : ((F.size : Int) != (n : Int)) = true := by
      refine bne_iff_ne.2 ?_
      rcases hno with h | h
      · rw [h, List.length_nil] at hsz; omega
      · omega
    have f3 : F.size ≤ 9223372036854775807 := by
      have := shape_mem q.text.toList
      have : (shape q.text.toList).length ≤ 4 := by
        rcases this with ⟨_, e⟩ | ⟨_, e⟩
        · rw [e]; decide
        · rcases e with e | e | e | e | e | e | e | e | e | e | e | e <;> (rw [e]; decide)
      omega
    clear hno hsz he
    by_cases hcap : cap = 1
    · obtain rfl : n = 0 := by omega
      subst hcap
      go_enter Tryz.func67, Tryz.ntmps67
      go_wp2_with fail
      go_quiet ((go_at_call 91; exact Calls.quiet_of_same (HF.out _)))
      go_wp2_with fail
      go_ret2
      exact ⟨below_drewN (((Below.refl _ _).alloc (by simp) _).alloc (by simp) _) _, rfl⟩
    · go_enter Tryz.func67, Tryz.ntmps67
      go_wp2_with fail
      go_quiet ((go_at_call 91; exact Calls.quiet_of_same (HF.out _)))
      go_wp2_with fail
      go_ret2
      exact ⟨below_drewN (((Below.refl _ _).alloc (by simp) _).alloc (by simp) _) _, rfl⟩
end Go.Proofs.YtagifgekhboinaaGreatDoor

namespace Go.Proofs.YtagifgekhboinaaGreatDoor
open Go.RowKit

theorem Bld.under {w w' : World} {b : Nat} {hd : ByteArray} {st : St} (h : Bld w b hd st) (hb : Below w.heap.size w w') : Bld w' b hd st := by
  obtain ⟨bp, bl, bc, kp, kl, kc, A, H⟩ := h
  exact ⟨bp, bl, bc, kp, kl, kc, A, H.under hb⟩
theorem Bld.done {w : World} {b B : Nat} {hd : ByteArray} {st : St} (h : Bld w b hd st) (hB : B ≤ b) : NIn w (fun k => B ≤ k) (.mk hd ByteArray.empty 0 st.binds st.ty st.kids) b := by
  obtain ⟨bp, bl, bc, kp, kl, kc, A, H⟩ := h
  exact H.done.keep (fun _ _ _ => rfl) (fun k hk _ => by omega)

set_option maxRecDepth 100000 in
set_option maxHeartbeats 4000000 in
theorem term_go {w0 : World} {S : Nat → Prop} {q : Tree} {qs : List Tree} {b cap n : Nat} {A : Nat → Hd} (hn : qs.length = n) (hl : n + 1 ≤ cap) (hc : cap ≤ maxLen) (hwt : 1 + Tree.wts (q :: qs) ≤ 12000) (hok : Tree.oks (q :: qs)) (hq : (A 0).a = q.text)
    (hA : ∀ i, i < n + 1 → w0.cell? ⟨b, i * 2, none⟩ = some (.string (A i).a)) (hB : ∀ i, i < n + 1 → w0.cell? ⟨b, i * 2 + 1, none⟩ = some (.slice (A i).p (A i).l (A i).c))
    (hps : ∀ i p, (q :: qs)[i]? = some p → TIn w0 S p (A i)) (ih : ∀ i p, (q :: qs)[i]? = some p → TmAsk w0 p (A i))
    (ar : List ByteArray) (sp : Option Addr) (na sc : Nat) (w : World) (hk : Kept w0 w) (hw : w0.heap.size ≤ w.heap.size) (hv : SV w sp na sc ar) (hna : na + (1 + Tree.wts (q :: qs)) ≤ 12000)
    (h0 : shape q.text.toList ≠ []) (hsl : (shape q.text.toList).length = qs.length) :
    Calls Tryz.prog 67 #[.agg #[.string ByteArray.empty, .slice (some ⟨b, 0, none⟩) (n + 1) cap], .slice sp na sc] w (TmPost (Tree.tm ar (.node (q :: qs))) w) := by
  obtain ⟨R, hR⟩ : ∃ R, Tree.parts ar (shape q.text.toList) qs St.none = R := ⟨_, rfl⟩
  rw [tm_go h0 hsl hR]
  have hlen := wts_length (q :: qs)
  have hlq : (q :: qs).length = n + 1 := by simp [hn]
  rw [hlq] at hlen
  have hwq : Tree.wts (q :: qs) = q.wt + Tree.wts qs := rfl
  have hwp := wt_pos q
  have hn0 : 1 ≤ n := by
    rw [← hn, ← hsl]
    cases hs : shape q.text.toList with
    | nil => exact absurd hs h0
    | cons c l => simp
  have hcap : ¬ cap = 1 := by omega
  unfold maxLen at hc
  have hn2 : n ≤ 12000 := by omega
  have hn4 : n ≤ 4 := by
    rw [← hn, ← hsl]
    rcases shape_mem q.text.toList with ⟨_, e⟩ | ⟨_, e⟩
    · rw [e]; decide
    · rcases e with e | e | e | e | e | e | e | e | e | e | e | e <;> (rw [e]; decide)
  have c1 : w.cell? ⟨b, 0, none⟩ = some (.string q.text) := by have := hk.cell (hA 0 (by omega)); rw [hq] at this; simpa using this
  have c2 : ∀ o, (w.alloc o).cell? ⟨b, 0, none⟩ = some (.string q.text) := fun o => (World.cell?_of_block (w := w) (heap_alloc_old w o (World.block_lt_of_cell? w _ c1))).trans c1
  have HF := hid (fun W => (formOf_any q.text W).mono fun e w' h => (⟨h.1, h.2.symm⟩ : _ ∧ w' = W))
  have hFs := upS_size (shape q.text.toList)
  have HFG := hid (fun i c h hi => upS_get (shape q.text.toList) i c h hi)
  obtain ⟨F, hF⟩ : ∃ F, upS (shape q.text.toList) = F := ⟨_, rfl⟩
  rw [hF] at HF hFs HFG
  rw [hsl, hn] at hFs
  have f1 := isEmpty_not F (by omega)
  have f2 : ((F.size : Int) != (n : Int)) = false := by simp [hFs]
  have f3 : F.size ≤ 9223372036854775807 := by omega
  have d0 : ((n : Int) + 1 == 0) = false := beq_eq_false_iff_ne.2 (by omega)
  have HFS := hid hFs
  have HR := hid hR
  have HN := hid hn
  have HSL := hid hsl
  have HA := hid hA
  have HB := hid hB
  have HPS := hid hps
  have HIH := hid ih
  have HOK := hid hok
  have HK := hid hk
  have HV := hid hv
  have hFle : n ≤ F.size := by omega
  clear hA hB hps ih hok hk hv hR hn hsl h0 hlq hq hFs hF c1
  obtain ⟨cs, hcs⟩ : ∃ cs, shape q.text.toList = cs := ⟨_, rfl⟩
  rw [hcs] at HR HSL HFG
  clear hcs
  go_enter Tryz.func67, Tryz.ntmps67
  go_wp2_with fail
  go_quiet ((go_at_call 91; exact Calls.quiet_of_same (HF.out _)))
  go_wp2_with fail
  go_loopw [47] (fun u wr => ∃ (i : Nat) (st : St), i ≤ n ∧ u = .int .i64 (i : Int) ∧ Bld wr (w.heap.size + 1) q.text st ∧ Below w.heap.size w wr ∧ w.heap.size + 2 ≤ wr.heap.size ∧ Hid (Tree.parts ar (cs.drop i) (qs.drop i) st = R) ∧ st.binds.length + st.kids.length ≤ i ∧ st.binds.length + Tree.wts (qs.drop i) ≤ Tree.wts qs) (fun u _ => n - (intOf u).toNat)
  case atStart =>
    refine ⟨0, St.none, Nat.zero_le _, rfl, ?_, below_drewN (((Below.refl _ _).alloc (Nat.le_refl _) _).alloc (by simp) _) _, by simp, by show _ = _; rw [List.drop_zero, List.drop_zero]; exact HR.out, by simp [St.none], by simp [St.none]⟩
    have hst := BldAt.start (w.alloc (.cells #[.string ByteArray.empty, .slice (some ⟨b, 0, none⟩) (n + 1) cap] 66)) q.text (w.heap.size + 1) (by simp)
    exact Bld.under ⟨_, _, _, _, _, _, _, hst⟩ (below_drewN (Below.refl _ _) _)
  case round =>
    obtain ⟨i, st, hi, rfl, hbld, hbel, hz, hparts, hlen2, hwts⟩ := hrel
    by_cases hlt : i < n
    · obtain ⟨p, hp⟩ : ∃ p, qs[i]? = some p := ⟨_, List.getElem?_eq_getElem (by rw [HN.out]; exact hlt)⟩
      obtain ⟨c, hcc⟩ : ∃ c, cs[i]? = some c := ⟨_, List.getElem?_eq_getElem (by rw [HSL.out, HN.out]; exact hlt)⟩
      have hiF : i < F.size := by omega
      have hFc := HFG.out i c hcc hiF
      have hwd := wts_drop qs i p hp
      have kw : Kept w0 wr := HK.out.below hbel hw
      have hwr : w0.heap.size ≤ wr.heap.size := by omega
      have ca : wr.cell? ⟨b, 2 + i * 2, none⟩ = some (.string (A (i + 1)).a) := by
        have := kw.cell (HA.out (i + 1) (by omega)); rwa [show (i + 1) * 2 = 2 + i * 2 by omega] at this
      have cb : wr.cell? ⟨b, 2 + i * 2 + 1, none⟩ = some (.slice (A (i + 1)).p (A (i + 1)).l (A (i + 1)).c) := by
        have := kw.cell (HB.out (i + 1) (by omega)); rwa [show (i + 1) * 2 = 2 + i * 2 by omega] at this
      have hwp2 := wt_pos p
      have hpt : (q :: qs)[i + 1]? = some p := by simpa using hp
      have HC := hid (fun W (hb : Bld W (w.heap.size + 1) q.text st) (hk : Kept w0 W) (hs : w0.heap.size ≤ W.heap.size) (hv : SV W sp na sc ar) => by
        have := addPart_any (HPS.out (i + 1) p hpt) (by omega) (oks_part _ HOK.out (i + 1) p hpt) (HIH.out (i + 1) p hpt) (w.heap.size + 1) q.text st ar sp na sc W hb hk hs hv (by omega) (by omega) (by omega) c
        rw [← hFc] at this
        exact this)
      have hstep : Tree.parts ar (cs.drop i) (qs.drop i) st = match add1 ar c p st with
          | some st' => Tree.parts ar (cs.drop (i + 1)) (qs.drop (i + 1)) st'
          | none => none := by
        have e1 := List.getElem?_eq_some_iff.1 hp
        have e2 := List.getElem?_eq_some_iff.1 hcc
        rw [List.drop_eq_getElem_cons e1.1, List.drop_eq_getElem_cons e2.1, e1.2, e2.2, parts_cons]
        all_goals (cases add1 ar c p st <;> rfl)
      rw [hparts.out] at hstep
      have HB2 := hid (fun o => (hbld.under ((Below.refl wr.heap.size wr).alloc (Nat.le_refl _) o).drew))
      have HK2 := hid (fun o => kw.below ((Below.refl wr.heap.size wr).alloc (Nat.le_refl _) o).drew hwr)
      have HV2 := hid (fun o => (HV.out.kept (Kept.of_below hbel (Nat.le_refl _))).kept (Kept.of_below ((Below.refl wr.heap.size wr).alloc (Nat.le_refl _) o).drew (Nat.le_refl _)))
      have HBE := hid hbel
      cases hO : add1 ar c p st with
      | none =>
        rw [hO] at hstep HC
        have HRN := hid (show R = none from hstep)
        clear hstep hparts hbld hbel kw hp hcc hFc hpt hO
        go_wp2_with fail
        go_region_with (go_at_call 92; refine (HC.out _ (show Bld (wr.alloc _).drew _ _ _ from HB2.out _) (show Kept w0 (wr.alloc _).drew from HK2.out _) (show w0.heap.size ≤ (wr.alloc _).drew.heap.size by simp; omega) (show SV (wr.alloc _).drew _ _ _ _ from HV2.out _)).mono ?_; rintro e w2 hp2; obtain ⟨rfl, hb2⟩ := hp2.none; have HBL := hid hb2; clear hp2 hb2)
        all_goals
          go_wp2_with fail
          go_ret2
          rw [HRN.out]
          refine ⟨?_, rfl⟩
          exact (HBE.out.alloc (by omega) _).drew.trans (HBL.out.mono (by omega))
      | some st' =>
        rw [hO] at hstep HC
        have HRS := hid hstep.symm
        have hal := add1_len hO
        clear hstep hparts hbld hbel kw hp hcc hFc hpt hO
        go_wp2_with fail
        go_region_with (go_at_call 92; refine (HC.out _ (show Bld (wr.alloc _).drew _ _ _ from HB2.out _) (show Kept w0 (wr.alloc _).drew from HK2.out _) (show w0.heap.size ≤ (wr.alloc _).drew.heap.size by simp; omega) (show SV (wr.alloc _).drew _ _ _ _ from HV2.out _)).mono ?_; rintro e w2 hp2; obtain ⟨rfl, hb2, hbl2⟩ := hp2.some; have HBL := hid hb2; have HBN := hid hbl2; clear hp2 hb2 hbl2)
        all_goals
          go_wp2_with fail
          go_roundw
          case rel =>
            have hz2 := HBL.out.size
            simp at hz2
            exact ⟨i + 1, st', by omega, by go_num, HBN.out, (HBE.out.alloc (by omega) _).drew.trans (HBL.out.mono (by omega)), by omega, HRS.out, by omega, by omega⟩
          case measure => simp [intOf]; omega
    · have hin : i = n := by omega
      have hRe : R = some st := by
        rw [← hparts.out, hin, List.drop_of_length_le (by rw [HSL.out, HN.out]; exact Nat.le_refl _), List.drop_of_length_le (by rw [HN.out]; exact Nat.le_refl _)]
        rfl
      have HRE := hid hRe
      have HBD := hid hbld
      have HBE := hid hbel
      clear hin hRe hparts hbld hbel
      go_wp2_with fail
      go_ret2
      rw [HRE.out]
      exact ⟨HBE.out, w.heap.size + 1, rfl, HBD.out.done (by omega)⟩

/-- THE PROGRAM's READING OF A PHRASE AS A TERM. -/
theorem termOfPhrase_any {w0 : World} {S : Nat → Prop} {t : Tree} {h : Hd} (ht : TIn w0 S t h) : t.wt ≤ 12000 → t.ok → TmAsk w0 t h := by
  induction ht with
  | atom s hne hm => intro _ hok; exact term_atom w0 s hne (by have := hok.1; omega)
  | node ps b cap A hp hl hc hS hA hB hps ih =>
    intro hwt hok ar sp na sc w hk hw hv hna
    obtain ⟨q, qs, rfl⟩ : ∃ q qs, ps = q :: qs := by cases ps with | nil => simp at hp | cons q qs => exact ⟨q, qs, rfl⟩
    rw [Tree.wt] at hwt hna
    rw [Tree.ok] at hok
    have hq := (hps 0 q rfl).text
    have hlen := wts_length (q :: qs)
    simp only [List.length_cons] at hl hA hB hlen
    by_cases hno : shape q.text.toList = [] ∨ (shape q.text.toList).length ≠ qs.length
    · exact term_no (n := qs.length) rfl hl hc (by omega) hq (by simpa using hA 0 (by omega)) ar sp na sc w hk hno
    · have h0 : shape q.text.toList ≠ [] := fun e => hno (Or.inl e)
      have hsl : (shape q.text.toList).length = qs.length := by
        rcases Nat.decEq (shape q.text.toList).length qs.length with h | h
        · exact absurd (Or.inr h) hno
        · exact h
      refine term_go (S := S) (n := qs.length) rfl hl hc hwt hok hq hA hB hps (fun i p hp => ?_) ar sp na sc w hk hw hv hna h0 hsl
      exact ih i p hp (by have := wt_part (q :: qs) i p hp; omega) (oks_part _ hok i p hp)
end Go.Proofs.YtagifgekhboinaaGreatDoor

namespace Go.Proofs.YtagifgekhboinaaGreatDoor
open Go.RowKit

/-- What the program reads a text as. -/
def readTm (s : ByteArray) : Option Tm := match parse s with
  | some t => if t.size ≤ 1500 then t.tm [] else none
  | none => none

set_option maxRecDepth 100000 in
set_option maxHeartbeats 2000000 in
theorem readTermWithin_any (s : ByteArray) (hs : s.size ≤ 400000000) (w : World) : Calls Tryz.prog 36 #[.string s, .slice none 0 0] w (TmPost (readTm s) w) := by
  have HC := hid (fun W => readPhrase_any s hs W)
  cases hp : parse s with
  | none =>
    have HP := hid hp
    have HR := hid (show readTm s = none by rw [readTm, hp])
    clear hp
    go_enter Tryz.func36, Tryz.ntmps36
    go_wp2_with (go_at_call 29; refine (HC.out _).mono ?_; rintro e w1 hp; rw [HP.out] at hp; obtain ⟨pa, pp, pl, pc, rfl, hpl, hb1⟩ := hp.none; clear hp)
    go_ret2
    rw [HR.out]
    exact ⟨hb1.alloc hb1.size _, rfl⟩
  | some t =>
    have hwt := parse_wt hp
    have hsz := size_le_wt t
    have hsz2 : t.size ≤ 12000 := by omega
    have hok := hid (parse_ok hp)
    have HP := hid hp
    by_cases h15 : t.size ≤ 1500
    · have HR := hid (show readTm s = t.tm [] by rw [readTm, hp]; simp only; rw [if_pos h15])
      have h15i : (t.size : Int) ≤ 1500 := by omega
      clear hp
      cases hty : t.tm [] with
      | none =>
        have HT := hid hty
        clear hty
        go_enter Tryz.func36, Tryz.ntmps36
        go_wp2_with (first | (go_at_call 67; have _ := hb2; refine (HE.out _ _ _ (((Kept.refl _).alloc (Nat.le_refl _) _).below hb2 (by simp)) (by have := hb2.size; simp at this; omega) (SV.nil _)).mono ?_; rintro e w3 hp; rw [HT.out] at hp; obtain ⟨rfl, hb3⟩ := hp.none; clear hp) | (go_at_call 58; refine (HD.out _ ((Kept.refl _).alloc (Nat.le_refl _) _) (by simp)).mono ?_; rintro e w2 ⟨rfl, hb2⟩; have kc := cells_of_pair (block_below (heap_new w1 (.cells #[.string pa, .slice pp pl pc] 66) _ rfl) hb2 (by simp))) | (go_at_call 29; refine (HC.out _).mono ?_; rintro e w1 hp; rw [HP.out] at hp; obtain ⟨pa, pp, pl, pc, rfl, hb1, ht⟩ := hp.some; clear hp; have HD := hid (fun W hk hs => atoms_any ht hsz2 W hk hs); have HE := hid (fun p c W hk hs hv => termOfPhrase_any ht hwt hok.out [] p 0 c W hk hs hv (by omega)); clear ht))
        go_ret2
        rw [HR.out, HT.out]
        have s1 := hb1.size
        have s2 := hb2.size
        simp at s2
        exact ⟨hb1.trans (((Below.refl _ _).alloc (by omega) _).trans ((hb2.mono (by simp; omega)).trans (hb3.mono (by omega)))), rfl⟩
      | some m =>
        have HT := hid hty
        clear hty
        go_enter Tryz.func36, Tryz.ntmps36
        go_wp2_with (first | (go_at_call 67; have _ := hb2; refine (HE.out _ _ _ (((Kept.refl _).alloc (Nat.le_refl _) _).below hb2 (by simp)) (by have := hb2.size; simp at this; omega) (SV.nil _)).mono ?_; rintro e w3 hp; rw [HT.out] at hp; obtain ⟨a, rfl, hb3, hn3⟩ := hp.some; have HN := hid hn3; clear hp hn3) | (go_at_call 58; refine (HD.out _ ((Kept.refl _).alloc (Nat.le_refl _) _) (by simp)).mono ?_; rintro e w2 ⟨rfl, hb2⟩; have kc := cells_of_pair (block_below (heap_new w1 (.cells #[.string pa, .slice pp pl pc] 66) _ rfl) hb2 (by simp))) | (go_at_call 29; refine (HC.out _).mono ?_; rintro e w1 hp; rw [HP.out] at hp; obtain ⟨pa, pp, pl, pc, rfl, hb1, ht⟩ := hp.some; clear hp; have HD := hid (fun W hk hs => atoms_any ht hsz2 W hk hs); have HE := hid (fun p c W hk hs hv => termOfPhrase_any ht hwt hok.out [] p 0 c W hk hs hv (by omega)); clear ht))
        go_ret2
        rw [HR.out, HT.out]
        have s1 := hb1.size
        have s2 := hb2.size
        simp at s2
        exact ⟨hb1.trans (((Below.refl _ _).alloc (by omega) _).trans ((hb2.mono (by simp; omega)).trans (hb3.mono (by omega)))), a, rfl, HN.out.keep (fun _ _ _ => rfl) (fun k hk _ => by omega)⟩
    · have HR := hid (show readTm s = none by rw [readTm, hp]; simp only; rw [if_neg h15])
      have h15i : 1500 < (t.size : Int) := by omega
      clear hp
      go_enter Tryz.func36, Tryz.ntmps36
      go_wp2_with (first | (go_at_call 58; have _ := hb1; refine (HD.out _ ((Kept.refl _).alloc (Nat.le_refl _) _) (by simp)).mono ?_; rintro e w2 ⟨rfl, hb2⟩) | (go_at_call 29; refine (HC.out _).mono ?_; rintro e w1 hp; rw [HP.out] at hp; obtain ⟨pa, pp, pl, pc, rfl, hb1, ht⟩ := hp.some; clear hp; have HD := hid (fun W hk hs => atoms_any ht hsz2 W hk hs); clear ht))
      go_ret2
      rw [HR.out]
      have s1 := hb1.size
      exact ⟨hb1.trans (((Below.refl _ _).alloc (by omega) _).trans (hb2.mono (by simp; omega))), rfl⟩

set_option maxRecDepth 100000 in
set_option maxHeartbeats 1000000 in
theorem readTerm_any (s : ByteArray) (hs : s.size ≤ 400000000) (w : World) : Calls Tryz.prog 17 #[.string s] w (TmPost (readTm s) w) := by
  have HC := hid (fun W => readTermWithin_any s hs W)
  cases hr : readTm s with
  | none =>
    rw [hr] at HC
    clear hr
    go_enter Tryz.func17, Tryz.ntmps17
    go_wp2_with (go_at_call 36; refine (HC.out _).mono ?_; rintro e w1 hp; obtain ⟨rfl, hb1⟩ := hp.none; clear hp)
    go_ret2
    exact ⟨hb1, rfl⟩
  | some m =>
    rw [hr] at HC
    clear hr
    go_enter Tryz.func17, Tryz.ntmps17
    go_wp2_with (go_at_call 36; refine (HC.out _).mono ?_; rintro e w1 hp; obtain ⟨a, rfl, hb1, hn1⟩ := hp.some; have HN := hid hn1; clear hp hn1)
    go_ret2
    exact ⟨hb1, a, rfl, HN.out⟩

/-- A sort's text. -/
def srtS : Option Bool → ByteArray
  | some true => strV
  | some false => strC
  | none => ByteArray.empty
/-- What TermSort answers. -/
def sortOf (s : ByteArray) : ByteArray := srtS ((readTm s).map Tm.isVal)
end Go.Proofs.YtagifgekhboinaaGreatDoor

namespace Go.Proofs.YtagifgekhboinaaGreatDoor
open Go.RowKit

theorem strV_l : strV.toList = [118, 97, 108, 117, 101] := by rw [Go.ByteArray.toList_eq]; rfl
theorem strC_l : strC.toList = [99, 111, 109, 112, 117, 116, 97, 116, 105, 111, 110] := by rw [Go.ByteArray.toList_eq]; rfl
theorem srtS_v (x : Option Bool) : ((srtS x).toList == [118, 97, 108, 117, 101]) = decide (x = some true) := by
  rcases x with _ | _ | _ <;> simp [srtS, strV_l, strC_l]
theorem srtS_c (x : Option Bool) : ((srtS x).toList == [99, 111, 109, 112, 117, 116, 97, 116, 105, 111, 110]) = decide (x = some false) := by
  rcases x with _ | _ | _ <;> simp [srtS, strV_l, strC_l]
theorem srtS_e (x : Option Bool) : (srtS x).toList.isEmpty = decide (x = none) := by
  rcases x with _ | _ | _ <;> simp [srtS, strV_l, strC_l]
theorem fitA (p : Tree) : (tyLim p).any Ty.isVal = ((p.kind.toList == [118, 97, 108, 117, 101]) && decide ((p.size : Int) ≤ 12)) := by
  rw [kind_ty, tyLim]
  by_cases h : p.size ≤ 12
  · rw [if_pos h, decide_eq_true (show (p.size : Int) ≤ 12 by omega)]
    cases p.ty with
    | none => simp [kindOf]
    | some ty => cases hv : ty.isVal <;> simp [kindOf, Ty.kindS, hv, strV_l, strC_l]
  · rw [if_neg h, decide_eq_false (show ¬ (p.size : Int) ≤ 12 by omega)]; simp
theorem fitC (p : Tree) : (tyLim p).any (!Ty.isVal ·) = ((p.kind.toList == [99, 111, 109, 112, 117, 116, 97, 116, 105, 111, 110]) && decide ((p.size : Int) ≤ 12)) := by
  rw [kind_ty, tyLim]
  by_cases h : p.size ≤ 12
  · rw [if_pos h, decide_eq_true (show (p.size : Int) ≤ 12 by omega)]
    cases p.ty with
    | none => simp [kindOf]
    | some ty => cases hv : ty.isVal <;> simp [kindOf, Ty.kindS, hv, strV_l, strC_l]
  · rw [if_neg h, decide_eq_false (show ¬ (p.size : Int) ≤ 12 by omega)]; simp
/-- Whether a part is of a kind. -/
def fit1 (c : Sg) (p : Tree) : Bool := match c with
  | .X => nameB p.text.toList
  | .A => (tyLim p).any Ty.isVal
  | .C => (tyLim p).any (!Ty.isVal ·)
  | .V => decide (Tree.srt p = some true)
  | .M => decide (Tree.srt p = some false)
theorem fits_cons (c : Sg) (cs : List Sg) (p : Tree) (ps : List Tree) : Tree.fits (c :: cs) (p :: ps) = (fit1 c p && Tree.fits cs ps) := by
  cases c <;> rw [Tree.fits] <;> rfl
/-- What the model's sort answers for a part. -/
def SrtAsk (w0 : World) (p : Tree) (h : Hd) : Prop := ∀ (W : World), Kept w0 W → w0.heap.size ≤ W.heap.size →
  Calls Tryz.prog 52 #[.agg #[.string h.a, .slice h.p h.l h.c]] W fun e w' => e = .returned (.string (srtS p.srt)) ∧ Below W.heap.size W w'
theorem ret_bool' {a b : Bool} (h : a = b) : Ending.returned (.bool a) = Ending.returned (.bool b) := by rw [h]
theorem text_small {w : World} {S : Nat → Prop} {p : Tree} {h : Hd} (ht : TIn w S p h) (hok : p.ok) : p.text.size ≤ 400000000 := by
  cases ht with
  | atom s hne hm => have := hok.1; show s.size ≤ _; omega
  | node ps b cap A hp hl hc hS hA hB hps => show ByteArray.empty.size ≤ _; decide

set_option maxRecDepth 100000 in
set_option maxHeartbeats 2000000 in
theorem l2Fits_any {w0 : World} {S : Nat → Prop} {p : Tree} {h : Hd} (ht : TIn w0 S p h) (hwt : p.wt ≤ 12000) (hok : p.ok) (ih : SrtAsk w0 p h) (w : World) (hk : Kept w0 w) (hw : w0.heap.size ≤ w.heap.size) (c : Sg) :
    Calls Tryz.prog 77 #[.agg #[.string h.a, .slice h.p h.l h.c], .int .u8 (c.lo.toNat : Int)] w fun e w' => e = .returned (.bool (fit1 c p)) ∧ Below w.heap.size w w' := by
  have k1 : ∀ o, Kept w0 (w.alloc o) := fun o => hk.alloc hw o
  cases c with
  | V =>
    have HC := hid (fun o => ih (w.alloc o) (k1 o) (by simp; omega))
    clear ih hk k1 ht
    have HQ := hid (srtS_v p.srt)
    show Calls Tryz.prog 77 #[_, .int .u8 (118 : Int)] w _
    go_enter Tryz.func77, Tryz.ntmps77
    go_wp2_with (go_at_call 52; refine (HC.out _).mono ?_; rintro e w1 ⟨rfl, hb1⟩)
    go_ret
    exact ⟨ret_bool' HQ.out, ((Below.refl _ _).alloc (Nat.le_refl _) _).trans (hb1.mono (by simp))⟩
  | M =>
    have HC := hid (fun o => ih (w.alloc o) (k1 o) (by simp; omega))
    clear ih hk k1 ht
    have HQ := hid (srtS_c p.srt)
    show Calls Tryz.prog 77 #[_, .int .u8 (109 : Int)] w _
    go_enter Tryz.func77, Tryz.ntmps77
    go_wp2_with (go_at_call 52; refine (HC.out _).mono ?_; rintro e w1 ⟨rfl, hb1⟩)
    go_ret
    exact ⟨ret_bool' HQ.out, ((Below.refl _ _).alloc (Nat.le_refl _) _).trans (hb1.mono (by simp))⟩
  | X =>
    have hsm := text_small ht hok
    rw [ht.text]
    have HC := hid (fun W => l2Name_any p.text hsm W)
    clear ih hk k1 ht
    show Calls Tryz.prog 77 #[_, .int .u8 (120 : Int)] w _
    go_enter Tryz.func77, Tryz.ntmps77
    go_wp2_with (go_at_call 75; refine (HC.out _).mono ?_; rintro e w1 ⟨rfl, rfl⟩)
    go_ret
    exact ⟨rfl, (Below.refl _ _).alloc (Nat.le_refl _) _⟩
  | A =>
    have hsz := size_le_wt p
    have hsz2 : p.size ≤ 12000 := by omega
    have HC := hid (fun o => l1Kind_any ht hwt (w.alloc o) (k1 o) (by simp; omega))
    have HD := hid (fun W hk hs => l1Size_any ht hsz2 W hk hs)
    have HK := hid k1
    have HF := hid (fitA p)
    clear ih hk k1 ht
    show Calls Tryz.prog 77 #[_, .int .u8 (97 : Int)] w _
    cases e0 : p.kind.toList == [118, 97, 108, 117, 101] with
    | true =>
      have HE := hid e0
      go_enter Tryz.func77, Tryz.ntmps77
      go_wp2_with (first | (go_at_call 25; have _ := hb1; refine (HD.out _ ((HK.out _).below hb1 (by simp; omega)) (by have := hb1.size; simp at this; omega)).mono ?_; rintro e w2 ⟨rfl, hb2⟩) | (go_at_call 42; refine (HC.out _).mono ?_; rintro e w1 ⟨rfl, hb1⟩; have kc := cells_of_pair (block_below (heap_new w (.cells #[.string h.a, .slice h.p h.l h.c] 48) _ rfl) hb1 (by simp))))
      go_ret
      have s1 := hb1.size
      simp at s1
      exact ⟨ret_bool' (by show _ = (tyLim p).any Ty.isVal; rw [HF.out, HE.out, Bool.true_and]), ((Below.refl _ _).alloc (Nat.le_refl _) _).trans ((hb1.mono (by simp)).trans (hb2.mono (by omega)))⟩
    | false =>
      have HE := hid e0
      go_enter Tryz.func77, Tryz.ntmps77
      go_wp2_with (go_at_call 42; refine (HC.out _).mono ?_; rintro e w1 ⟨rfl, hb1⟩; have kc := cells_of_pair (block_below (heap_new w (.cells #[.string h.a, .slice h.p h.l h.c] 48) _ rfl) hb1 (by simp)))
      go_ret
      exact ⟨ret_bool' (by show _ = (tyLim p).any Ty.isVal; rw [HF.out, HE.out, Bool.false_and]), ((Below.refl _ _).alloc (Nat.le_refl _) _).trans (hb1.mono (by simp))⟩
  | C =>
    have hsz := size_le_wt p
    have hsz2 : p.size ≤ 12000 := by omega
    have HC := hid (fun o => l1Kind_any ht hwt (w.alloc o) (k1 o) (by simp; omega))
    have HD := hid (fun W hk hs => l1Size_any ht hsz2 W hk hs)
    have HK := hid k1
    have HF := hid (fitC p)
    clear ih hk k1 ht
    show Calls Tryz.prog 77 #[_, .int .u8 (99 : Int)] w _
    cases e0 : p.kind.toList == [99, 111, 109, 112, 117, 116, 97, 116, 105, 111, 110] with
    | true =>
      have HE := hid e0
      go_enter Tryz.func77, Tryz.ntmps77
      go_wp2_with (first | (go_at_call 25; have _ := hb1; refine (HD.out _ ((HK.out _).below hb1 (by simp; omega)) (by have := hb1.size; simp at this; omega)).mono ?_; rintro e w2 ⟨rfl, hb2⟩) | (go_at_call 42; refine (HC.out _).mono ?_; rintro e w1 ⟨rfl, hb1⟩; have kc := cells_of_pair (block_below (heap_new w (.cells #[.string h.a, .slice h.p h.l h.c] 48) _ rfl) hb1 (by simp))))
      go_ret
      have s1 := hb1.size
      simp at s1
      exact ⟨ret_bool' (by show _ = (tyLim p).any (!Ty.isVal ·); rw [HF.out, HE.out, Bool.true_and]), ((Below.refl _ _).alloc (Nat.le_refl _) _).trans ((hb1.mono (by simp)).trans (hb2.mono (by omega)))⟩
    | false =>
      have HE := hid e0
      go_enter Tryz.func77, Tryz.ntmps77
      go_wp2_with (go_at_call 42; refine (HC.out _).mono ?_; rintro e w1 ⟨rfl, hb1⟩; have kc := cells_of_pair (block_below (heap_new w (.cells #[.string h.a, .slice h.p h.l h.c] 48) _ rfl) hb1 (by simp)))
      go_ret
      exact ⟨ret_bool' (by show _ = (tyLim p).any (!Ty.isVal ·); rw [HF.out, HE.out, Bool.false_and]), ((Below.refl _ _).alloc (Nat.le_refl _) _).trans (hb1.mono (by simp))⟩
end Go.Proofs.YtagifgekhboinaaGreatDoor

namespace Go.Proofs.YtagifgekhboinaaGreatDoor
open Go.RowKit

theorem loS_size (l : List Sg) : (loS l).size = l.length := by simp [loS, ByteArray.size]
theorem loS_get (l : List Sg) (i : Nat) (c : Sg) (h : l[i]? = some c) (hi : i < (loS l).size) : (loS l)[i] = c.lo := by
  have h1 := toList_get (loS l) i hi
  rw [Go.ByteArray.toList_eq] at h1
  simp [loS, h] at h1
  exact h1.symm
theorem srt_no {q : Tree} {qs : List Tree} (h : shape q.text.toList = [] ∨ (shape q.text.toList).length ≠ qs.length) : Tree.srt (.node (q :: qs)) = none := by
  rw [Tree.srt, if_pos h]
theorem srt_go {q : Tree} {qs : List Tree} (h0 : shape q.text.toList ≠ []) (h : (shape q.text.toList).length = qs.length) :
    Tree.srt (.node (q :: qs)) = if Tree.fits (shape q.text.toList) qs = true ∧ ¬ (q.text.toList = [115, 112, 108, 105, 116] ∧ (qs[1]?.map (·.text.toList)) = (qs[2]?.map (·.text.toList))) then some (isValHead q.text.toList) else none := by
  rw [Tree.srt, if_neg (fun hh => hh.elim h0 (fun e => e h))]
theorem srt_bad {q : Tree} {qs : List Tree} (h0 : shape q.text.toList ≠ []) (h : (shape q.text.toList).length = qs.length) (hf : Tree.fits (shape q.text.toList) qs = false) : Tree.srt (.node (q :: qs)) = none := by
  rw [srt_go h0 h, if_neg (fun hh => by rw [hf] at hh; cases hh.1)]
theorem srt_plain {q : Tree} {qs : List Tree} (h0 : shape q.text.toList ≠ []) (h : (shape q.text.toList).length = qs.length) (hf : Tree.fits (shape q.text.toList) qs = true) (hs : (q.text.toList == [115, 112, 108, 105, 116]) = false) : Tree.srt (.node (q :: qs)) = some (isValHead q.text.toList) := by
  rw [srt_go h0 h, if_pos ⟨hf, fun hh => by rw [hh.1] at hs; simp at hs⟩]
theorem srt_split {q : Tree} {qs : List Tree} (h0 : shape q.text.toList ≠ []) (h : (shape q.text.toList).length = qs.length) (hf : Tree.fits (shape q.text.toList) qs = true) (hs : q.text.toList = [115, 112, 108, 105, 116]) {x y : Tree} (hx : qs[1]? = some x) (hy : qs[2]? = some y) :
    Tree.srt (.node (q :: qs)) = if x.text.toList == y.text.toList then none else some false := by
  rw [srt_go h0 h, hx, hy]
  cases e : x.text.toList == y.text.toList with
  | true =>
    rw [if_neg (fun hh => hh.2 ⟨hs, by simpa using e⟩)]; rfl
  | false =>
    rw [if_pos ⟨hf, fun hh => by have := hh.2; simp at this; simp [this] at e⟩, hs]; rfl
theorem isVal_head {h : List UInt8} (h0 : shape h ≠ []) : isValHead h = (h == [112, 97, 105, 114] || h == [116, 104, 117, 110, 107]) := by
  have n1 : h ≠ [110, 97, 109, 101] := fun e => by subst e; exact h0 rfl
  have n2 : h ≠ [98, 105, 116] := fun e => by subst e; exact h0 rfl
  unfold isValHead
  by_cases e1 : h = [112, 97, 105, 114]
  · subst e1; rfl
  · by_cases e2 : h = [116, 104, 117, 110, 107]
    · subst e2; rfl
    · simp [n1, n2, e1, e2]

set_option maxRecDepth 100000 in
set_option maxHeartbeats 2000000 in
theorem srt_atom (w0 : World) (s : ByteArray) (hne : s.size ≠ 0) (hm : s.size ≤ 400000000) : SrtAsk w0 (.atom s) ⟨s, none, 0, 0⟩ := by
  intro w hk hw
  have he := isEmpty_not s hne
  have HN := hid (fun W => l2Name_any s hm W)
  have HT := hid (show Tree.srt (.atom s) = if s.toList = [48] ∨ s.toList = [49] ∨ nameB s.toList = true then some true else none by rw [Tree.srt])
  clear hk hw
  cases e0 : s.toList == [48] with
  | true =>
    have HQ := hid (show Tree.srt (.atom s) = some true by rw [HT.out, if_pos (Or.inl (by simpa using e0))])
    go_enter Tryz.func52, Tryz.ntmps52
    go_wp2_with fail
    go_ret
    exact ⟨ret_str (by rw [HQ.out]; rfl), (Below.refl _ _).alloc (Nat.le_refl _) _⟩
  | false =>
    cases e1 : s.toList == [49] with
    | true =>
      have HQ := hid (show Tree.srt (.atom s) = some true by rw [HT.out, if_pos (Or.inr (Or.inl (by simpa using e1)))])
      go_enter Tryz.func52, Tryz.ntmps52
      go_wp2_with fail
      go_ret
      exact ⟨ret_str (by rw [HQ.out]; rfl), (Below.refl _ _).alloc (Nat.le_refl _) _⟩
    | false =>
      cases e2 : nameB s.toList with
      | true =>
        have HQ := hid (show Tree.srt (.atom s) = some true by rw [HT.out, if_pos (Or.inr (Or.inr e2))])
        have HE := hid e2
        clear e2
        go_enter Tryz.func52, Tryz.ntmps52
        go_wp2_with (go_at_call 75; refine (HN.out _).mono ?_; rintro e w1 ⟨rfl, rfl⟩; rw [HE.out])
        go_ret
        exact ⟨ret_str (by rw [HQ.out]; rfl), (Below.refl _ _).alloc (Nat.le_refl _) _⟩
      | false =>
        have HQ := hid (show Tree.srt (.atom s) = none by rw [HT.out, if_neg (fun h => by rcases h with h | h | h; (· simp [h] at e0); (· simp [h] at e1); (· rw [e2] at h; cases h))])
        have HE := hid e2
        clear e2
        go_enter Tryz.func52, Tryz.ntmps52
        go_wp2_with (go_at_call 75; refine (HN.out _).mono ?_; rintro e w1 ⟨rfl, rfl⟩; rw [HE.out])
        go_ret
        exact ⟨ret_str (by rw [HQ.out]; rfl), (Below.refl _ _).alloc (Nat.le_refl _) _⟩
end Go.Proofs.YtagifgekhboinaaGreatDoor

namespace Go.Proofs.YtagifgekhboinaaGreatDoor
open Go.RowKit

set_option maxRecDepth 100000 in
set_option maxHeartbeats 2000000 in
theorem sort_no {w0 : World} {q : Tree} {qs : List Tree} {b cap n : Nat} (hn : qs.length = n) (hn2 : n ≤ 12000) (w : World) (hk : Kept w0 w)
    (hh : ∀ W, Kept w0 W → Calls Tryz.prog 69 #[.agg #[.string ByteArray.empty, .slice (some ⟨b, 0, none⟩) (n + 1) cap]] W fun e w' => e = .returned (.string q.text) ∧ Below W.heap.size W w')
    (hw : w0.heap.size ≤ w.heap.size)
    (hno : shape q.text.toList = [] ∨ (shape q.text.toList).length ≠ qs.length) :
    Calls Tryz.prog 52 #[.agg #[.string ByteArray.empty, .slice (some ⟨b, 0, none⟩) (n + 1) cap]] w fun e w' => e = .returned (.string (srtS (Tree.srt (.node (q :: qs))))) ∧ Below w.heap.size w w' := by
  rw [srt_no hno]
  have HH := hid (fun o => hh (w.alloc o) (hk.alloc hw o))
  have HF := hid (fun W => l2Shape_any q.text W)
  have hsz := loS_size (shape q.text.toList)
  obtain ⟨F, hF⟩ : ∃ F, loS (shape q.text.toList) = F := ⟨_, rfl⟩
  rw [hF] at HF hsz
  have hn3 : (n : Int) + 1 ≤ 12001 := by omega
  have f3 : F.size ≤ 4 := by
    have := shape_mem q.text.toList
    have : (shape q.text.toList).length ≤ 4 := by
      rcases this with ⟨_, e⟩ | ⟨_, e⟩
      · rw [e]; decide
      · rcases e with e | e | e | e | e | e | e | e | e | e | e | e <;> (rw [e]; decide)
    omega
  clear hk hh hF hw
  by_cases he : F.size = 0
  · have f1 := isEmpty_of F he
    clear hno hsz he
    go_enter Tryz.func52, Tryz.ntmps52
    go_wp2_with (first | (go_at_call 69; refine (HH.out _).mono ?_; rintro e w1 ⟨rfl, hb1⟩; have kc := cells_of_pair (block_below (heap_new w (.cells #[.string ByteArray.empty, .slice (some ⟨b, 0, none⟩) (n + 1) cap] 48) _ rfl) hb1 (by simp))) | (go_at_call 76; refine (HF.out _).mono ?_; rintro e w2 ⟨rfl, rfl⟩))
    go_ret
    exact ⟨rfl, ((Below.refl _ _).alloc (Nat.le_refl _) _).trans (hb1.mono (by simp))⟩
  · have f1 := isEmpty_not F he
    have f2 : ((n : Int) + 1 != (F.size : Int) + 1) = true := by
      refine bne_iff_ne.2 ?_
      rcases hno with h | h
      · rw [h, List.length_nil] at hsz; omega
      · omega
    clear hno hsz he
    go_enter Tryz.func52, Tryz.ntmps52
    go_wp2_with (first | (go_at_call 69; refine (HH.out _).mono ?_; rintro e w1 ⟨rfl, hb1⟩; have kc := cells_of_pair (block_below (heap_new w (.cells #[.string ByteArray.empty, .slice (some ⟨b, 0, none⟩) (n + 1) cap] 48) _ rfl) hb1 (by simp))) | (go_at_call 76; refine (HF.out _).mono ?_; rintro e w2 ⟨rfl, rfl⟩))
    go_ret
    exact ⟨rfl, ((Below.refl _ _).alloc (Nat.le_refl _) _).trans (hb1.mono (by simp))⟩

set_option maxRecDepth 100000 in
set_option maxHeartbeats 40000000 in
theorem sort_go {w0 : World} {S : Nat → Prop} {q : Tree} {qs : List Tree} {b cap n N : Nat} {A : Nat → Hd} (hn : qs.length = n) (hN : N = n + 1) (_hl : n + 1 ≤ cap) (_hc : cap ≤ maxLen) (hwt : 1 + Tree.wts (q :: qs) ≤ 12000) (hok : Tree.oks (q :: qs))
    (hA : ∀ i, i < n + 1 → w0.cell? ⟨b, i * 2, none⟩ = some (.string (A i).a)) (hB : ∀ i, i < n + 1 → w0.cell? ⟨b, i * 2 + 1, none⟩ = some (.slice (A i).p (A i).l (A i).c))
    (hps : ∀ i p, (q :: qs)[i]? = some p → TIn w0 S p (A i)) (ih : ∀ i p, (q :: qs)[i]? = some p → SrtAsk w0 p (A i))
    (w : World) (hk : Kept w0 w) (hw : w0.heap.size ≤ w.heap.size)
    (hh : ∀ W, Kept w0 W → Calls Tryz.prog 69 #[.agg #[.string ByteArray.empty, .slice (some ⟨b, 0, none⟩) N cap]] W fun e w' => e = .returned (.string q.text) ∧ Below W.heap.size W w')
    (h0 : shape q.text.toList ≠ []) (hsl : (shape q.text.toList).length = qs.length) :
    Calls Tryz.prog 52 #[.agg #[.string ByteArray.empty, .slice (some ⟨b, 0, none⟩) N cap]] w fun e w' => e = .returned (.string (srtS (Tree.srt (.node (q :: qs))))) ∧ Below w.heap.size w w' := by
  have HBAD := hid (fun hf => srt_bad h0 hsl hf)
  have HPLAIN := hid (fun hf hs => srt_plain h0 hsl hf hs)
  have HSPLIT := hid (fun hf hs x y hx hy => srt_split h0 hsl hf hs (x := x) (y := y) hx hy)
  have HVAL := hid (isVal_head h0)
  obtain ⟨R, hR⟩ : ∃ R, Tree.srt (.node (q :: qs)) = R := ⟨_, rfl⟩
  rw [hR] at HBAD HPLAIN HSPLIT ⊢
  have hlen := wts_length (q :: qs)
  have hlq : (q :: qs).length = n + 1 := by simp [hn]
  rw [hlq] at hlen
  unfold maxLen at _hc
  have hn4 : n ≤ 4 := by
    rw [← hn, ← hsl]
    rcases shape_mem q.text.toList with ⟨_, e⟩ | ⟨_, e⟩
    · rw [e]; decide
    · rcases e with e | e | e | e | e | e | e | e | e | e | e | e <;> (rw [e]; decide)
  have HN4 := hid (show q.text.toList = [115, 112, 108, 105, 116] → n = 4 by
    intro e; rw [← hn, ← hsl, e]; rfl)
  have hn0 : 1 ≤ n := by
    rw [← hn, ← hsl]
    cases hs : shape q.text.toList with
    | nil => exact absurd hs h0
    | cons c l => simp
  have HH := hid (fun o => hh (w.alloc o) (hk.alloc hw o))
  have HF := hid (fun W => l2Shape_any q.text W)
  have hFs := loS_size (shape q.text.toList)
  have HFG := hid (fun i c h hi => loS_get (shape q.text.toList) i c h hi)
  obtain ⟨F, hF⟩ : ∃ F, loS (shape q.text.toList) = F := ⟨_, rfl⟩
  rw [hF] at HF hFs HFG
  rw [hsl, hn] at hFs
  have f1 := isEmpty_not F (by omega)
  have f2 : ((N : Int) != (F.size : Int) + 1) = false := by simp [hFs, hN]
  have f3 : F.size ≤ 4 := by omega
  have hN1 : n < N := by omega
  have hN2 : N ≤ 5 := by omega
  clear hN
  have HN := hid hn
  have HSL := hid hsl
  have HA := hid hA
  have HB := hid hB
  have HPS := hid hps
  have HIH := hid ih
  have HOK := hid hok
  have HK := hid hk
  have hFle : n ≤ F.size := by omega
  have hFle2 : F.size ≤ n := by omega
  clear hA hB hps ih hok hk hR hn hsl h0 hlq hFs hF hh
  obtain ⟨cs, hcs⟩ : ∃ cs, shape q.text.toList = cs := ⟨_, rfl⟩
  rw [hcs] at HSL HFG HBAD HPLAIN HSPLIT
  clear hcs
  go_enter Tryz.func52, Tryz.ntmps52
  go_wp2_with (first | (go_at_call 69; refine (HH.out _).mono ?_; rintro e w1 ⟨rfl, hb1⟩; have kc := cells_of_pair (block_below (heap_new w (.cells #[.string ByteArray.empty, .slice (some ⟨b, 0, none⟩) N cap] 48) _ rfl) hb1 (by simp))) | (go_at_call 76; refine (HF.out _).mono ?_; rintro e w2 ⟨rfl, rfl⟩))
  go_loopw [5] (fun u wr => ∃ i : Nat, i ≤ n ∧ u = .int .i64 (i : Int) ∧ Below (w.heap.size + 1) (w.alloc (.cells #[.string ByteArray.empty, .slice (some ⟨b, 0, none⟩) N cap] 48)) wr ∧ Hid (Tree.fits cs qs = Tree.fits (cs.drop i) (qs.drop i))) (fun u _ => n - (intOf u).toNat)
  case atStart =>
    exact ⟨0, Nat.zero_le _, rfl, hb1.mono (by simp), by show _ = _; rw [List.drop_zero, List.drop_zero]⟩
  case round =>
    obtain ⟨i, hi, rfl, hbel, hfit⟩ := hrel
    have hz := hbel.size
    simp at hz
    have kc2 := cells_of_pair (block_below (heap_new w (.cells #[.string ByteArray.empty, .slice (some ⟨b, 0, none⟩) N cap] 48) w.heap.size rfl) hbel (by omega))
    have kw : Kept w0 wr := (HK.out.alloc hw _).below hbel (by omega)
    have hwr : w0.heap.size ≤ wr.heap.size := by omega
    by_cases hlt : i < n
    · obtain ⟨p, hp⟩ : ∃ p, qs[i]? = some p := ⟨_, List.getElem?_eq_getElem (by rw [HN.out]; exact hlt)⟩
      obtain ⟨c, hcc⟩ : ∃ c, cs[i]? = some c := ⟨_, List.getElem?_eq_getElem (by rw [HSL.out, HN.out]; exact hlt)⟩
      have hiF : i < F.size := by omega
      have d2 : i + 1 < N := by omega
      have d3 : (i : Int) < (F.size : Int) := by omega
      have dA : (0 : Int) ≤ (i : Int) + 1 := by omega
      have dB : (i : Int) + 1 < (N : Int) := by omega
      have dF : IntKind.i64.wrap ((i : Int) + 1) = (i : Int) + 1 := (IntWalk.i64_left _).trans (IntWalk.wrap64_in ((i : Int) + 1) (by omega))
      have hFc := HFG.out i c hcc hiF
      have ca := kw.cell (HA.out (i + 1) (by omega))
      have cb := kw.cell (HB.out (i + 1) (by omega))
      have hpt : (q :: qs)[i + 1]? = some p := by simpa using hp
      have hwp := wt_part (q :: qs) (i + 1) p hpt
      have HC := hid (fun W (hk : Kept w0 W) (hs : w0.heap.size ≤ W.heap.size) => by
        have := l2Fits_any (HPS.out (i + 1) p hpt) (by omega) (oks_part _ HOK.out (i + 1) p hpt) (HIH.out (i + 1) p hpt) W hk hs c
        rw [← hFc] at this
        exact this)
      have hstep : Tree.fits cs qs = (fit1 c p && Tree.fits (cs.drop (i + 1)) (qs.drop (i + 1))) := by
        have e1 := List.getElem?_eq_some_iff.1 hp
        have e2 := List.getElem?_eq_some_iff.1 hcc
        rw [hfit.out, List.drop_eq_getElem_cons e1.1, List.drop_eq_getElem_cons e2.1, e1.2, e2.2, fits_cons]
      have KW := hid (show Kept w0 wr.drew from kw.below (Below.refl wr.heap.size wr).drew hwr)
      obtain ⟨B, hO⟩ : ∃ B, fit1 c p = B := ⟨_, rfl⟩
      rw [hO] at hstep HC
      have HRN := hid (show B = false → R = none from fun e => HBAD.out (by rw [hstep, e]; rfl))
      have HRS := hid (show B = true → Tree.fits cs qs = Tree.fits (cs.drop (i + 1)) (qs.drop (i + 1)) from fun e => by rw [hstep, e, Bool.true_and])
      clear hstep hfit kw hp hcc hFc hpt hO HBAD HPLAIN HSPLIT HVAL HN4 HPS HIH HOK HA HB HFG HK HH HF hwp
      go_wp2_with fail
      go_region_with (go_at_call 77; refine (HC.out _ (show Kept w0 wr.drew from KW.out) (show w0.heap.size ≤ wr.drew.heap.size from hwr)).mono ?_; rintro e w3 ⟨rfl, hb3⟩)
      all_goals
        cases B with
        | false =>
          go_wp2_with fail
          go_ret
          refine ⟨ret_str (by rw [HRN.out (by trivial)]; rfl), ?_⟩
          exact ((Below.refl _ _).alloc (Nat.le_refl _) _).trans ((hbel.mono (by omega)).trans ((Below.refl _ wr).drew.trans (hb3.mono (show w.heap.size ≤ wr.heap.size by omega))))
        | true =>
          go_wp2_with fail
          go_roundw
          case rel =>
            exact ⟨i + 1, by omega, by go_num, hbel.trans ((Below.refl _ wr).drew.trans (hb3.mono (show w.heap.size + 1 ≤ wr.heap.size by omega))), by show _ = _; exact HRS.out (by trivial)⟩
          case measure => simp [intOf]; omega
    · have hin : i = n := by omega
      have hft : Tree.fits cs qs = true := by
        rw [hfit.out, hin, List.drop_of_length_le (by rw [HSL.out, HN.out]; exact Nat.le_refl _), List.drop_of_length_le (by rw [HN.out]; exact Nat.le_refl _)]
        rfl
      have HFT := hid hft
      have HBE := hid (((Below.refl w.heap.size w).alloc (Nat.le_refl _) _).trans (hbel.mono (by omega)))
      cases e1 : q.text.toList == [115, 112, 108, 105, 116] with
      | true =>
        have hs : q.text.toList = [115, 112, 108, 105, 116] := by simpa using e1
        have hn4' := HN4.out hs
        obtain ⟨x, hx⟩ : ∃ x, qs[1]? = some x := ⟨_, List.getElem?_eq_getElem (by rw [HN.out]; omega)⟩
        obtain ⟨y, hy⟩ : ∃ y, qs[2]? = some y := ⟨_, List.getElem?_eq_getElem (by rw [HN.out]; omega)⟩
        have hRR := HSPLIT.out hft hs x y hx hy
        have tx := (HPS.out 2 x (by simpa using hx)).text
        have ty := (HPS.out 3 y (by simpa using hy)).text
        have ca : wr.cell? ⟨b, 4, none⟩ = some (.string x.text) := by have := kw.cell (HA.out 2 (by omega)); rw [tx] at this; simpa using this
        have cb : wr.cell? ⟨b, 6, none⟩ = some (.string y.text) := by have := kw.cell (HA.out 3 (by omega)); rw [ty] at this; simpa using this
        have d2 : (2 : Int) < (N : Int) := by omega
        have d3 : (3 : Int) < (N : Int) := by omega
        cases e2 : x.text.toList == y.text.toList with
        | true =>
          rw [e2] at hRR
          have HRR := hid (show R = none from hRR)
          clear hRR hin hft hfit hbel kw hx hy tx ty hs
          go_wp2_with fail
          go_region
          all_goals
            go_wp2_with fail
            go_ret
            exact ⟨ret_str (by rw [HRR.out]; rfl), HBE.out.drew⟩
        | false =>
          rw [e2] at hRR
          have HRR := hid (show R = some false from hRR)
          have e3 : (q.text.toList == [112, 97, 105, 114]) = false := by rw [hs]; rfl
          have e4 : (q.text.toList == [116, 104, 117, 110, 107]) = false := by rw [hs]; rfl
          clear hRR hin hft hfit hbel kw hx hy tx ty hs
          go_wp2_with fail
          go_region
          all_goals
            go_wp2_with fail
            go_ret
            exact ⟨ret_str (by rw [HRR.out]; rfl), HBE.out.drew⟩
      | false =>
        have hRR := HPLAIN.out hft e1
        rw [HVAL.out] at hRR
        cases e3 : q.text.toList == [112, 97, 105, 114] with
        | true =>
          rw [e3, Bool.true_or] at hRR
          have HRR := hid hRR
          clear hRR hin hft hfit hbel kw
          go_wp2_with fail
          go_region
          all_goals
            go_wp2_with fail
            go_ret
            exact ⟨ret_str (by rw [HRR.out]; rfl), HBE.out.drew⟩
        | false =>
          cases e4 : q.text.toList == [116, 104, 117, 110, 107] with
          | true =>
            rw [e3, e4, Bool.or_true] at hRR
            have HRR := hid hRR
            clear hRR hin hft hfit hbel kw
            go_wp2_with fail
            go_region
            all_goals
              go_wp2_with fail
              go_ret
              exact ⟨ret_str (by rw [HRR.out]; rfl), HBE.out.drew⟩
          | false =>
            rw [e3, e4, Bool.or_false] at hRR
            have HRR := hid hRR
            clear hRR hin hft hfit hbel kw
            go_wp2_with fail
            go_region
            all_goals
              go_wp2_with fail
              go_ret
              exact ⟨ret_str (by rw [HRR.out]; rfl), HBE.out.drew⟩

/-- THE MODEL's SORT of a tree. -/
theorem l2Sort_any {w0 : World} {S : Nat → Prop} {t : Tree} {h : Hd} (ht : TIn w0 S t h) : t.wt ≤ 12000 → t.ok → SrtAsk w0 t h := by
  have hh := fun (w : World) (hk : Kept w0 w) => l1Head_any ht w hk
  induction ht with
  | atom s hne hm => intro _ hok; exact srt_atom w0 s hne (by have := hok.1; omega)
  | node ps b cap A hp hl hc hS hA hB hps ih =>
    intro hwt hok w hk hw
    obtain ⟨q, qs, rfl⟩ : ∃ q qs, ps = q :: qs := by cases ps with | nil => simp at hp | cons q qs => exact ⟨q, qs, rfl⟩
    rw [Tree.wt] at hwt
    rw [Tree.ok] at hok
    have hlen := wts_length (q :: qs)
    simp only [List.length_cons] at hl hA hB hlen
    by_cases hno : shape q.text.toList = [] ∨ (shape q.text.toList).length ≠ qs.length
    · exact sort_no (n := qs.length) rfl (by omega) w hk hh hw hno
    · have h0 : shape q.text.toList ≠ [] := fun e => hno (Or.inl e)
      have hsl : (shape q.text.toList).length = qs.length := by
        rcases Nat.decEq (shape q.text.toList).length qs.length with h | h
        · exact absurd (Or.inr h) hno
        · exact h
      refine sort_go (S := S) (n := qs.length) rfl rfl hl hc hwt hok hA hB hps (fun i p hp => ?_) w hk hw hh h0 hsl
      exact ih i p hp (fun w hk => l1Head_any (hps i p hp) w hk) (by have := wt_part (q :: qs) i p hp; omega) (oks_part _ hok i p hp)
end Go.Proofs.YtagifgekhboinaaGreatDoor

namespace Go.Proofs.YtagifgekhboinaaGreatDoor
open Go.RowKit

theorem tmsizes_snoc (ks : List Tm) (i : Nat) (k : Tm) (h : ks[i]? = some k) : Tm.sizes (ks.take (i + 1)) = Tm.sizes (ks.take i) + k.size := by
  rw [List.take_add_one, h, Option.toList_some, tmsizes_append, Tm.sizes, Tm.sizes]; omega
theorem tmsizes_take (ks : List Tm) (i : Nat) : Tm.sizes (ks.take i) ≤ Tm.sizes ks := by
  have h := tmsizes_append (ks.take i) (ks.drop i)
  rw [List.take_append_drop] at h; omega
theorem tm_size_pos : ∀ m : Tm, 1 ≤ m.size
  | .mk _ _ _ _ _ _ => by rw [Tm.size]; omega
theorem tmsizes_length (ks : List Tm) : ks.length ≤ Tm.sizes ks := by
  induction ks with
  | nil => simp
  | cons k ks ih => have := tm_size_pos k; simp only [List.length_cons, Tm.sizes]; omega
theorem readTm_inv {s : ByteArray} {m : Tm} (h : readTm s = some m) : ∃ t, parse s = some t ∧ t.tm [] = some m ∧ t.size ≤ 1500 ∧ m.size ≤ 1500 := by
  unfold readTm at h
  cases hp : parse s with
  | none => rw [hp] at h; simp at h
  | some t =>
    rw [hp] at h; simp only at h
    split at h
    · rename_i hc; exact ⟨t, rfl, h, hc, by rw [← tm_size t [] m h]; exact hc⟩
    · simp at h
end Go.Proofs.YtagifgekhboinaaGreatDoor
