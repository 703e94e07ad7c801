/- A term under construction: addPart; termOfAtom. -/
import Derived.Test.YtfogjomebcponaaDoorAddK
namespace Go.Proofs.YtfogjomebcponaaDoor
open Go.RowKit

/-- One part, by its sign. -/
def add1 (ar : List ByteArray) (c : Sg) (p : Tree) (st : St) : Option St := match c with
  | .X => addX p.text st
  | .A => addT true p st
  | .C => addT false p st
  | .V => addK true (p.tm (ar ++ st.binds)) st
  | .M => addK false (p.tm (ar ++ st.binds)) st
theorem parts_cons (ar : List ByteArray) (c : Sg) (cs : List Sg) (p : Tree) (ps : List Tree) (st : St) : Tree.parts ar (c :: cs) (p :: ps) st = match add1 ar c p st with
    | some st' => Tree.parts ar cs ps st'
    | none => none := by
  cases c <;> rw [Tree.parts] <;> rfl
theorem PartPost.behind {o : Option St} {b : Nat} {hd : ByteArray} {w w1 w2 : World} {e : Ending} (h : PartPost o b hd w1 e w2) (hb : Below b w w1) : PartPost o b hd w e w2 := ⟨hb.trans h.1, h.2⟩
theorem PartPost.bool {o : Option St} {b : Nat} {hd : ByteArray} {w w2 : World} {e : Ending} (h : PartPost o b hd w e w2) : e = .returned (.bool o.isSome) ∧ PartPost o b hd w (.returned (.bool o.isSome)) w2 := by
  cases o with
  | none => have := h.none; exact ⟨this.1, this.1 ▸ h⟩
  | some st => have := h.some; exact ⟨this.1, this.1 ▸ h⟩

set_option maxRecDepth 100000 in
set_option maxHeartbeats 2000000 in
theorem addPart_X {w0 : World} {S : Nat → Prop} {p : Tree} {h : Hd} (ht : TIn w0 S p h) (hok : p.ok) (b : Nat) (hd : ByteArray) (st : St) (q : Option Addr) (n cc : Nat) (w : World) (hst : Bld w b hd st) (hbn : st.binds.length ≤ 1000) :
    Calls Tryd.prog 56 #[.pointer (some ⟨b, 0, none⟩), .int .u8 120, .agg #[.string h.a, .slice h.p h.l h.c], .slice q n cc] w (PartPost (addX p.text st) b hd w) := by
  obtain ⟨hlt, H1⟩ : b < w.heap.size ∧ Hid (∀ (o : Obj), Bld (w.alloc o) b hd st) := by
    obtain ⟨bp, bl, bc, kp, kl, kc, A, H0⟩ := hst
    exact ⟨lt_of_block H0.heap, fun o => ⟨bp, bl, bc, kp, kl, kc, A, H0.under ((Below.refl _ _).alloc (Nat.le_refl _) _)⟩⟩
  have hB := hid (fun (o : Obj) => (((Below.refl w.heap.size w).alloc (Nat.le_refl _) o).mono (show b ≤ w.heap.size by omega)))
  have HX := hid (fun W (hb : Bld W b hd st) => addBound_any h.a (by rw [ht.text]; have := (text_ok hok).1; omega) b hd st W hb hbn)
  rw [← ht.text]
  obtain ⟨O, hO⟩ : ∃ O, addX h.a st = O := ⟨_, rfl⟩
  rw [hO] at HX ⊢
  clear ht hok hst hO
  obtain ⟨pa, pp, pl, pc⟩ := h
  go_enter Tryd.func56, Tryd.ntmps56
  go_wp2_with (go_at_call 62; refine (HX.out _ (H1.out _)).mono ?_; rintro e w1 hp; obtain ⟨rfl, hq⟩ := hp.bool; have HP := hid (hq.behind (hB.out _)); clear hp hq)
  go_ret
  exact HP.out

set_option maxRecDepth 100000 in
set_option maxHeartbeats 2000000 in
theorem addPart_A {w0 : World} {S : Nat → Prop} {p : Tree} {h : Hd} (ht : TIn w0 S p h) (hwt : p.wt ≤ 12000) (hok : p.ok) (b : Nat) (hd : ByteArray) (st : St) (q : Option Addr) (n cc : Nat) (w : World) (hst : Bld w b hd st) (hk : Kept w0 w) (hw : w0.heap.size ≤ w.heap.size)  :
    Calls Tryd.prog 56 #[.pointer (some ⟨b, 0, none⟩), .int .u8 65, .agg #[.string h.a, .slice h.p h.l h.c], .slice q n cc] w (PartPost (addT true p st) b hd w) := by
  obtain ⟨hlt, H1⟩ : b < w.heap.size ∧ Hid (∀ (o : Obj), Bld (w.alloc o) b hd st) := by
    obtain ⟨bp, bl, bc, kp, kl, kc, A, H0⟩ := hst
    exact ⟨lt_of_block H0.heap, fun o => ⟨bp, bl, bc, kp, kl, kc, A, H0.under ((Below.refl _ _).alloc (Nat.le_refl _) _)⟩⟩
  have HK := hid (fun o => hk.alloc hw o)
  have hB := hid (fun (o : Obj) => (((Below.refl w.heap.size w).alloc (Nat.le_refl _) o).mono (show b ≤ w.heap.size by omega)))
  have HX := hid (fun W (hb : Bld W b hd st) hk hw => addType_any ht hwt hok true b hd st W hb hk hw)
  obtain ⟨O, hO⟩ : ∃ O, addT true p st = O := ⟨_, rfl⟩
  rw [hO] at HX ⊢
  clear ht hok hst hk hO
  obtain ⟨pa, pp, pl, pc⟩ := h
  go_enter Tryd.func56, Tryd.ntmps56
  go_wp2_with (go_at_call 63; refine (HX.out _ (H1.out _) (HK.out _) (by simp; omega)).mono ?_; rintro e w1 hp; obtain ⟨rfl, hq⟩ := hp.bool; have HP := hid (hq.behind (hB.out _)); clear hp hq)
  go_ret
  exact HP.out

set_option maxRecDepth 100000 in
set_option maxHeartbeats 2000000 in
theorem addPart_C {w0 : World} {S : Nat → Prop} {p : Tree} {h : Hd} (ht : TIn w0 S p h) (hwt : p.wt ≤ 12000) (hok : p.ok) (b : Nat) (hd : ByteArray) (st : St) (q : Option Addr) (n cc : Nat) (w : World) (hst : Bld w b hd st) (hk : Kept w0 w) (hw : w0.heap.size ≤ w.heap.size)  :
    Calls Tryd.prog 56 #[.pointer (some ⟨b, 0, none⟩), .int .u8 67, .agg #[.string h.a, .slice h.p h.l h.c], .slice q n cc] w (PartPost (addT false p st) b hd w) := by
  obtain ⟨hlt, H1⟩ : b < w.heap.size ∧ Hid (∀ (o : Obj), Bld (w.alloc o) b hd st) := by
    obtain ⟨bp, bl, bc, kp, kl, kc, A, H0⟩ := hst
    exact ⟨lt_of_block H0.heap, fun o => ⟨bp, bl, bc, kp, kl, kc, A, H0.under ((Below.refl _ _).alloc (Nat.le_refl _) _)⟩⟩
  have HK := hid (fun o => hk.alloc hw o)
  have hB := hid (fun (o : Obj) => (((Below.refl w.heap.size w).alloc (Nat.le_refl _) o).mono (show b ≤ w.heap.size by omega)))
  have HX := hid (fun W (hb : Bld W b hd st) hk hw => addType_any ht hwt hok false b hd st W hb hk hw)
  obtain ⟨O, hO⟩ : ∃ O, addT false p st = O := ⟨_, rfl⟩
  rw [hO] at HX ⊢
  clear ht hok hst hk hO
  obtain ⟨pa, pp, pl, pc⟩ := h
  go_enter Tryd.func56, Tryd.ntmps56
  go_wp2_with (go_at_call 63; refine (HX.out _ (H1.out _) (HK.out _) (by simp; omega)).mono ?_; rintro e w1 hp; obtain ⟨rfl, hq⟩ := hp.bool; have HP := hid (hq.behind (hB.out _)); clear hp hq)
  go_ret
  exact HP.out

set_option maxRecDepth 100000 in
set_option maxHeartbeats 2000000 in
theorem addPart_V {w0 : World} {p : Tree} {h : Hd} (ih : TmAsk w0 p h) (b : Nat) (hd : ByteArray) (st : St) (ar : List ByteArray) (q : Option Addr) (n cc : Nat) (w : World) (hst : Bld w b hd st) (hk : Kept w0 w) (hw : w0.heap.size ≤ w.heap.size) (hv : SV w q n cc ar)
    (hn : n + st.binds.length + p.wt ≤ 12000) (hkn : st.kids.length ≤ 1000) :
    Calls Tryd.prog 56 #[.pointer (some ⟨b, 0, none⟩), .int .u8 86, .agg #[.string h.a, .slice h.p h.l h.c], .slice q n cc] w (PartPost (addK true (p.tm (ar ++ st.binds)) st) b hd w) := by
  obtain ⟨hlt, H1⟩ : b < w.heap.size ∧ Hid (∀ (o : Obj), Bld (w.alloc o) b hd st) := by
    obtain ⟨bp, bl, bc, kp, kl, kc, A, H0⟩ := hst
    exact ⟨lt_of_block H0.heap, fun o => ⟨bp, bl, bc, kp, kl, kc, A, H0.under ((Below.refl _ _).alloc (Nat.le_refl _) _)⟩⟩
  have HK := hid (fun o => hk.alloc hw o)
  have hB := hid (fun (o : Obj) => (((Below.refl w.heap.size w).alloc (Nat.le_refl _) o).mono (show b ≤ w.heap.size by omega)))
  have HX := hid (fun W (hb : Bld W b hd st) hk hw hv => addKid_any ih true b hd st ar q n cc W hb hk hw hv hn hkn)
  have HV := hid (fun o => hv.kept ((Kept.refl w).alloc (Nat.le_refl _) o))
  obtain ⟨O, hO⟩ : ∃ O, addK true (p.tm (ar ++ st.binds)) st = O := ⟨_, rfl⟩
  rw [hO] at HX ⊢
  clear ih hst hk hv hO
  obtain ⟨pa, pp, pl, pc⟩ := h
  go_enter Tryd.func56, Tryd.ntmps56
  go_wp2_with (go_at_call 64; refine (HX.out _ (H1.out _) (HK.out _) (by simp; omega) (HV.out _)).mono ?_; rintro e w1 hp; obtain ⟨rfl, hq⟩ := hp.bool; have HP := hid (hq.behind (hB.out _)); clear hp hq)
  go_ret
  exact HP.out

set_option maxRecDepth 100000 in
set_option maxHeartbeats 2000000 in
theorem addPart_M {w0 : World} {p : Tree} {h : Hd} (ih : TmAsk w0 p h) (b : Nat) (hd : ByteArray) (st : St) (ar : List ByteArray) (q : Option Addr) (n cc : Nat) (w : World) (hst : Bld w b hd st) (hk : Kept w0 w) (hw : w0.heap.size ≤ w.heap.size) (hv : SV w q n cc ar)
    (hn : n + st.binds.length + p.wt ≤ 12000) (hkn : st.kids.length ≤ 1000) :
    Calls Tryd.prog 56 #[.pointer (some ⟨b, 0, none⟩), .int .u8 77, .agg #[.string h.a, .slice h.p h.l h.c], .slice q n cc] w (PartPost (addK false (p.tm (ar ++ st.binds)) st) b hd w) := by
  obtain ⟨hlt, H1⟩ : b < w.heap.size ∧ Hid (∀ (o : Obj), Bld (w.alloc o) b hd st) := by
    obtain ⟨bp, bl, bc, kp, kl, kc, A, H0⟩ := hst
    exact ⟨lt_of_block H0.heap, fun o => ⟨bp, bl, bc, kp, kl, kc, A, H0.under ((Below.refl _ _).alloc (Nat.le_refl _) _)⟩⟩
  have HK := hid (fun o => hk.alloc hw o)
  have hB := hid (fun (o : Obj) => (((Below.refl w.heap.size w).alloc (Nat.le_refl _) o).mono (show b ≤ w.heap.size by omega)))
  have HX := hid (fun W (hb : Bld W b hd st) hk hw hv => addKid_any ih false b hd st ar q n cc W hb hk hw hv hn hkn)
  have HV := hid (fun o => hv.kept ((Kept.refl w).alloc (Nat.le_refl _) o))
  obtain ⟨O, hO⟩ : ∃ O, addK false (p.tm (ar ++ st.binds)) st = O := ⟨_, rfl⟩
  rw [hO] at HX ⊢
  clear ih hst hk hv hO
  obtain ⟨pa, pp, pl, pc⟩ := h
  go_enter Tryd.func56, Tryd.ntmps56
  go_wp2_with (go_at_call 64; refine (HX.out _ (H1.out _) (HK.out _) (by simp; omega) (HV.out _)).mono ?_; rintro e w1 hp; obtain ⟨rfl, hq⟩ := hp.bool; have HP := hid (hq.behind (hB.out _)); clear hp hq)
  go_ret
  exact HP.out

theorem addPart_any {w0 : World} {S : Nat → Prop} {p : Tree} {h : Hd} (ht : TIn w0 S p h) (hwt : p.wt ≤ 12000) (hok : p.ok) (ih : TmAsk w0 p h) (b : Nat) (hd : ByteArray) (st : St) (ar : List ByteArray) (q : Option Addr) (n cc : Nat) (w : World) (hst : Bld w b hd st) (hk : Kept w0 w) (hw : w0.heap.size ≤ w.heap.size) (hv : SV w q n cc ar)
    (hn : n + st.binds.length + p.wt ≤ 12000) (hkn : st.kids.length ≤ 1000) (hbn : st.binds.length ≤ 1000) (c : Sg) :
    Calls Tryd.prog 56 #[.pointer (some ⟨b, 0, none⟩), .int .u8 (c.up.toNat : Int), .agg #[.string h.a, .slice h.p h.l h.c], .slice q n cc] w (PartPost (add1 ar c p st) b hd w) := by
  cases c with
  | X => exact addPart_X ht hok b hd st q n cc w hst hbn
  | A => exact addPart_A ht hwt hok b hd st q n cc w hst hk hw
  | C => exact addPart_C ht hwt hok b hd st q n cc w hst hk hw
  | V => exact addPart_V ih b hd st ar q n cc w hst hk hw hv hn hkn
  | M => exact addPart_M ih b hd st ar q n cc w hst hk hw hv hn hkn

set_option maxRecDepth 100000 in
set_option maxHeartbeats 1000000 in
theorem termOfAtom_any (s : ByteArray) (hs : s.size ≤ 400000000) (ar : List ByteArray) (q : Option Addr) (n c : Nat) (w : World) (hv : SV w q n c ar) (hn : n ≤ 100000) :
    Calls Tryd.prog 55 #[.string s, .slice q n c] w (TmPost (atomTm ar s) w) := by
  have HN := hid (fun W => isName_any s hs W)
  have HD := hid (fun W (hk : Kept w W) => depthOf_any s ar q n c W (hv.kept hk) hn)
  clear hv
  cases e0 : s.toList == [48] with
  | true =>
    have HA := hid (show atomTm ar s = some (.mk strBit s (-1) [] none []) by rw [atomTm, if_pos (Or.inl (eq_t e0))])
    go_enter Tryd.func55, Tryd.ntmps55
    go_wp2_with fail
    go_ret2
    rw [HA.out]
    exact ⟨(Below.refl _ _).alloc (Nat.le_refl _) _, w.heap.size, rfl, leaf_in (heap_new _ _ _ rfl) (Nat.le_refl _)⟩
  | false =>
    cases e1 : s.toList == [49] with
    | true =>
      have HA := hid (show atomTm ar s = some (.mk strBit s (-1) [] none []) by rw [atomTm, if_pos (Or.inr (eq_t e1))])
      go_enter Tryd.func55, Tryd.ntmps55
      go_wp2_with fail
      go_ret2
      rw [HA.out]
      exact ⟨(Below.refl _ _).alloc (Nat.le_refl _) _, w.heap.size, rfl, leaf_in (heap_new _ _ _ rfl) (Nat.le_refl _)⟩
    | false =>
      have hno : ¬ (s.toList = [48] ∨ s.toList = [49]) := by
        simp only [beq_eq_false_iff_ne, ne_eq] at e0 e1
        exact fun h => h.elim e0 e1
      cases hnm : nameB s.toList with
      | false =>
        have HA := hid (show atomTm ar s = none by rw [atomTm, if_neg hno, if_neg (by rw [hnm]; simp)])
        rw [hnm] at HN
        clear hnm hno
        go_enter Tryd.func55, Tryd.ntmps55
        go_wp2_with (go_at_call 60; refine (HN.out _).mono ?_; rintro e w1 ⟨rfl, hb1⟩)
        go_ret2
        rw [HA.out]
        exact ⟨hb1, rfl⟩
      | true =>
        have HA := hid (show atomTm ar s = some (.mk strName s (depthIn s.toList ar) [] none []) by rw [atomTm, if_neg hno, if_pos hnm])
        rw [hnm] at HN
        obtain ⟨D, hD⟩ : ∃ D, depthIn s.toList ar = D := ⟨_, rfl⟩
        rw [hD] at HA HD
        clear hnm hno hD
        go_enter Tryd.func55, Tryd.ntmps55
        go_wp2_with (first | (go_at_call 60; refine (HN.out _).mono ?_; rintro e w1 ⟨rfl, hb1⟩) | (go_at_call 61; refine (HD.out _ (Kept.of_below hb1 (Nat.le_refl _))).mono ?_; rintro e w2 ⟨rfl, rfl⟩))
        go_ret2
        rw [HA.out]
        have hz := hb1.size
        exact ⟨hb1.alloc hz _, w1.heap.size, rfl, leaf_in (heap_new _ _ _ rfl) hz⟩
end Go.Proofs.YtfogjomebcponaaDoor
