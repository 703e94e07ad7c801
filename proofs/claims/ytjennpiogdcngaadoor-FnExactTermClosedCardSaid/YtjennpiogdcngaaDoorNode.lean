/- Terms in the program's memory; a term under construction; sort, depthOf, termOfAtom. -/
import Derived.Test.YtjennpiogdcngaaDoorConcat
namespace Go.Proofs.YtjennpiogdcngaaDoor
open Go.RowKit

def tyV : Option Ty → Value
  | some t => t.val
  | none => .nilIface
theorem tyV_iface (o : Option Ty) : (∃ u v, tyV o = .iface u v) ∨ tyV o = .nilIface := by
  cases o with
  | none => exact Or.inr rfl
  | some t => obtain ⟨u, v, h⟩ := t.val_iface; exact Or.inl ⟨u, v, h⟩
/-- Pointers to blocks. -/
def ptrs (A : Nat → Nat) (n : Nat) : List Value := (List.range n).map fun i => Value.pointer (some ⟨A i, 0, none⟩)
theorem ptrs_length (A : Nat → Nat) (n : Nat) : (ptrs A n).length = n := by simp [ptrs]
theorem ptrs_get (A : Nat → Nat) {n i : Nat} (h : i < n) : (ptrs A n)[i]? = some (.pointer (some ⟨A i, 0, none⟩)) := by simp [ptrs, h]
theorem ptrs_snoc (A : Nat → Nat) (n a : Nat) : ptrs (fun i => if i = n then a else A i) (n + 1) = ptrs A n ++ [.pointer (some ⟨a, 0, none⟩)] := by
  unfold ptrs
  rw [List.range_succ, List.map_append]
  congr 1
  · apply List.map_congr_left
    intro i hi
    have hin : i < n := by simpa using hi
    show Value.pointer (some ⟨if i = n then a else A i, 0, none⟩) = _
    rw [if_neg (by omega)]
  · simp
/-- A row of one-cell values in a block of a set. -/
def RIn (w : World) (S : Nat → Prop) (p : Option Addr) (l : List Value) : Prop := ∀ i v, l[i]? = some v → ∃ g, p = some ⟨g, 0, none⟩ ∧ S g ∧ w.cell? ⟨g, i, none⟩ = some v
theorem RIn.keep {w w' : World} {S S' : Nat → Prop} {p : Option Addr} {l : List Value} (h : RIn w S p l) (hb : ∀ k, S k → k < w.heap.size → w'.heap[k]? = w.heap[k]?) (hS : ∀ k, S k → k < w.heap.size → S' k) : RIn w' S' p l := fun i v hv =>
  let ⟨g, hp, hg, hc⟩ := h i v hv
  have hl := World.block_lt_of_cell? w _ hc
  ⟨g, hp, hS g hg hl, (World.cell?_of_block (w := w) (a := ⟨g, i, none⟩) (hb g hg hl)).trans hc⟩

/-- A term's node in memory. 'S': which blocks it lies in. -/
inductive NIn (w : World) (S : Nat → Prop) : Tm → Nat → Prop
  | mk (hd a : ByteArray) (d : Int) (bs : List ByteArray) (ty : Option Ty) (ks : List Tm) (b : Nat) (bp : Option Addr) (bl bc : Nat) (kp : Option Addr) (kl kc : Nat) (A : Nat → Nat) (hS : S b)
      (hb : w.heap[b]? = some (.cells #[.string hd, .string a, .int .i64 d, .slice bp bl bc, tyV ty, .slice kp kl kc] 50 (0, 0)))
      (hbl : bs.length = bl) (hkl : ks.length = kl) (hbn : bp = none → bc = 0) (hbv : RIn w S bp (bs.map Value.string)) (hkv : RIn w S kp (ptrs A kl))
      (hks : ∀ i k, ks[i]? = some k → NIn w S k (A i)) : NIn w S (.mk hd a d bs ty ks) b
theorem NIn.keep {w w' : World} {S S' : Nat → Prop} {m : Tm} {b : Nat} (h : NIn w S m b) (hb : ∀ k, S k → k < w.heap.size → w'.heap[k]? = w.heap[k]?) (hS : ∀ k, S k → k < w.heap.size → S' k) : NIn w' S' m b := by
  induction h with
  | mk hd a d bs ty ks b bp bl bc kp kl kc A hS0 hb0 hbl hkl hbn hbv hkv hks ih =>
    have hlt := lt_of_block hb0
    exact .mk hd a d bs ty ks b bp bl bc kp kl kc A (hS b hS0 hlt) ((hb b hS0 hlt).trans hb0) hbl hkl hbn (hbv.keep hb hS) (hkv.keep hb hS) ih
theorem NIn.lt {w : World} {S : Nat → Prop} {m : Tm} {b : Nat} (h : NIn w S m b) : S b ∧ b < w.heap.size := by
  cases h with
  | mk hd a d bs ty ks b bp bl bc kp kl kc A hS0 hb0 _ _ _ _ _ _ => exact ⟨hS0, lt_of_block hb0⟩

/-- The cells of a node's block, and the block behind a store. -/
theorem cells_of_six {w : World} {b : Nat} {x0 x1 x2 x3 x4 x5 : Value} {t : TypeId} (h : w.heap[b]? = some (.cells #[x0, x1, x2, x3, x4, x5] t (0, 0))) :
    w.cell? ⟨b, 0, none⟩ = some x0 ∧ w.cell? ⟨b, 1, none⟩ = some x1 ∧ w.cell? ⟨b, 2, none⟩ = some x2 ∧ w.cell? ⟨b, 3, none⟩ = some x3 ∧ w.cell? ⟨b, 4, none⟩ = some x4 ∧ w.cell? ⟨b, 5, none⟩ = some x5 ∧
    w.frozen? ⟨b, 3, none⟩ = false ∧ w.frozen? ⟨b, 4, none⟩ = false ∧ w.frozen? ⟨b, 5, none⟩ = false := by
  simp [World.cell?, World.frozen?, h]
theorem six_setCell {w : World} {b : Nat} {x0 x1 x2 x3 x4 x5 u : Value} {t : TypeId} (h : w.heap[b]? = some (.cells #[x0, x1, x2, x3, x4, x5] t (0, 0))) :
    (w.setCell ⟨b, 3, none⟩ u).heap[b]? = some (.cells #[x0, x1, x2, u, x4, x5] t (0, 0)) ∧ (w.setCell ⟨b, 4, none⟩ u).heap[b]? = some (.cells #[x0, x1, x2, x3, u, x5] t (0, 0)) ∧ (w.setCell ⟨b, 5, none⟩ u).heap[b]? = some (.cells #[x0, x1, x2, x3, x4, u] t (0, 0)) := by
  have hlt := lt_of_block h
  have h' : w.heap[b] = .cells #[x0, x1, x2, x3, x4, x5] t (0, 0) := by simpa [Array.getElem?_eq_getElem hlt] using h
  refine ⟨?_, ?_, ?_⟩
  · show (w.heap.modify b _)[b]? = _
    rw [Array.getElem?_eq_getElem (by simpa using hlt), Array.getElem_modify_self, h']; rfl
  · show (w.heap.modify b _)[b]? = _
    rw [Array.getElem?_eq_getElem (by simpa using hlt), Array.getElem_modify_self, h']; rfl
  · show (w.heap.modify b _)[b]? = _
    rw [Array.getElem?_eq_getElem (by simpa using hlt), Array.getElem_modify_self, h']; rfl

/-- What termOfPhrase leaves. -/
def TmPost (o : Option Tm) (w : World) (e : Ending) (w' : World) : Prop :=
  Below w.heap.size w w' ∧ match o with
    | some m => ∃ a : Nat, e = .returned (.tuple #[.pointer (some ⟨a, 0, none⟩), .bool true]) ∧ NIn w' (fun k => w.heap.size ≤ k) m a
    | none => e = .returned (.tuple #[.pointer none, .bool false])
theorem TmPost.none {w w' : World} {e : Ending} (h : TmPost Option.none w e w') : e = .returned (.tuple #[.pointer Option.none, .bool false]) ∧ Below w.heap.size w w' := ⟨h.2, h.1⟩
theorem TmPost.some {w w' : World} {e : Ending} {m : Tm} (h : TmPost (Option.some m) w e w') : ∃ a : Nat, e = .returned (.tuple #[.pointer (Option.some ⟨a, 0, Option.none⟩), .bool true]) ∧ Below w.heap.size w w' ∧ NIn w' (fun k => w.heap.size ≤ k) m a :=
  let ⟨hb, a, he, hn⟩ := h; ⟨a, he, hb, hn⟩

set_option maxRecDepth 100000 in
set_option maxHeartbeats 1000000 in
theorem depthOf_any (s : ByteArray) (ar : List ByteArray) (p : Option Addr) (n c : Nat) (w : World) (hv : SV w p n c ar) (hn : n ≤ 100000) :
    Calls Tryd.prog 95 #[.string s, .slice p n c] w fun e w' => e = .returned (.int .i64 (depthIn s.toList ar)) ∧ w = w' := by
  have HV := hid hv
  have hl := hv.1
  have HL := hid hl
  clear hv hl
  go_enter Tryd.func95, Tryd.ntmps95
  go_wp2_with fail
  go_loop [8] (fun u => ∃ i : Nat, i ≤ n ∧ u = .int .i64 (i : Int) ∧ Hid (depthIn s.toList ar = depthR s.toList (ar.reverse.drop i) i)) (fun u => n - (intOf u).toNat)
  case atStart => exact ⟨0, Nat.zero_le _, rfl, by show _ = _; rw [List.drop_zero]; rfl⟩
  case round =>
    obtain ⟨i, hi, rfl, hd⟩ := hrel
    by_cases hlt : i < n
    · have hj : n - 1 - i < ar.length := by rw [HL.out]; omega
      obtain ⟨x, hx⟩ : ∃ x, ar[n - 1 - i]? = some x := ⟨_, List.getElem?_eq_getElem hj⟩
      obtain ⟨g, rfl, hc⟩ := HV.out.2.2 _ x hx
      have hjj : (n : Int) - 1 - (i : Int) = ((n - 1 - i : Nat) : Int) := by omega
      have hrev : ar.reverse.drop i = x :: ar.reverse.drop (i + 1) := by
        have hil : i < ar.reverse.length := by rw [List.length_reverse, HL.out]; exact hlt
        rw [List.drop_eq_getElem_cons hil, List.getElem_reverse]
        congr 1
        rw [List.getElem?_eq_getElem hj] at hx
        have : ar.length - 1 - i = n - 1 - i := by rw [HL.out]
        simp only [this]; exact Option.some.inj hx
      have hdn := hd.out
      rw [hrev, depthR] at hdn
      have HD := hid hdn
      obtain ⟨j, hjd⟩ : ∃ j, n - 1 - i = j := ⟨_, rfl⟩
      rw [hjd] at hjj hc
      have hj0 : (0 : Int) ≤ (j : Int) := by omega
      have hj1 : (j : Int) < (n : Int) := by omega
      clear hx hrev hdn hd hj
      cases hq : x.toList == s.toList with
      | true =>
        have HQ := hid (show x.toList = s.toList by simpa using hq)
        go_wp2_with fail
        go_ret
        exact ⟨ret_int (by rw [HD.out, if_pos HQ.out]), rfl⟩
      | false =>
        have HQ := hid (show ¬ x.toList = s.toList by simpa using hq)
        go_wp2_with fail
        go_round
        case rel => exact ⟨i + 1, by omega, by go_num, by show _ = _; rw [HD.out, if_neg HQ.out]⟩
        case measure => simp [intOf]; omega
    · have hin : i = n := by omega
      have HE := hid (show depthIn s.toList ar = -1 by rw [hd.out, hin, List.drop_of_length_le (by rw [List.length_reverse, HL.out]; exact Nat.le_refl _)]; rfl)
      clear hin hd
      go_wp2_with fail
      go_ret
      exact ⟨ret_int HE.out.symm, rfl⟩

/-- A head's sort. -/
def sortS (hd : ByteArray) : ByteArray := if isValHead hd.toList = true then strV else strC
set_option maxRecDepth 100000 in
set_option maxHeartbeats 1000000 in
theorem sort_any (hd : ByteArray) (b : Nat) (w : World) (hc : w.cell? ⟨b, 0, none⟩ = some (.string hd)) :
    Calls Tryd.prog 38 #[.pointer (some ⟨b, 0, none⟩)] w fun e w' => e = .returned (.string (sortS hd)) ∧ w = w' := by
  cases e0 : hd.toList == [110, 97, 109, 101] with
  | true =>
    have hq := hid (show isValHead hd.toList = true by rw [eq_t e0]; rfl)
    go_enter Tryd.func38, Tryd.ntmps38
    go_wp2
    go_ret
    exact ⟨ret_str (by rw [sortS, if_pos hq.out]; rfl), rfl⟩
  | false =>
    cases e1 : hd.toList == [98, 105, 116] with
    | true =>
      have hq := hid (show isValHead hd.toList = true by rw [eq_t e1]; rfl)
      go_enter Tryd.func38, Tryd.ntmps38
      go_wp2
      go_ret
      exact ⟨ret_str (by rw [sortS, if_pos hq.out]; rfl), rfl⟩
    | false =>
      cases e2 : hd.toList == [112, 97, 105, 114] with
      | true =>
        have hq := hid (show isValHead hd.toList = true by rw [eq_t e2]; rfl)
        go_enter Tryd.func38, Tryd.ntmps38
        go_wp2
        go_ret
        exact ⟨ret_str (by rw [sortS, if_pos hq.out]; rfl), rfl⟩
      | false =>
        cases e3 : hd.toList == [116, 104, 117, 110, 107] with
        | true =>
          have hq := hid (show isValHead hd.toList = true by rw [eq_t e3]; rfl)
          go_enter Tryd.func38, Tryd.ntmps38
          go_wp2
          go_ret
          exact ⟨ret_str (by rw [sortS, if_pos hq.out]; rfl), rfl⟩
        | false =>
          have hq := hid (show ¬ isValHead hd.toList = true by
            unfold isValHead
            simp only [beq_eq_false_iff_ne, ne_eq] at e0 e1 e2 e3
            simp [e0, e1, e2, e3])
          go_enter Tryd.func38, Tryd.ntmps38
          go_wp2
          go_ret
          exact ⟨ret_str (by rw [sortS, if_neg hq.out]; rfl), rfl⟩
end Go.Proofs.YtjennpiogdcngaaDoor
