/- Merged: Around. -/
import Derived.Test.YtknjpdbdchnpeaaFM15
import Derived.Test.YtknjpdbdchnpeaaFM4
namespace Go.Proofs.Ytknjpdbdchnpeaa
open Go.RowKit Go.Maps

/-- The counts of the parts of a type that has one of two heads, a known count and an element. -/
def around (o : Option Ty) (a b : UInt8) (k : Int) : Option (List Nat) := match o with
  | some ty => if (ty.headB = a ∨ ty.headB = b) ∧ 0 ≤ k ∧ k < cntV ty.cnt then kc ty.kids else none
  | none => none
def AroundPost (o : Option (List Nat)) (w : World) (e : Ending) (w' : World) : Prop :=
  Below w.heap.size w w' ∧ match o with
    | some xs => ∃ q c, e = .returned (.tuple #[.slice q xs.length c, .bool true]) ∧ Vals0 w' q (xs.map fun (x : Nat) => Value.int .i64 (x : Int))
    | none => e = .returned (.tuple #[.slice none 0 0, .bool false])
theorem AroundPost.none {w w' : World} {e : Ending} (h : AroundPost none w e w') : e = .returned (.tuple #[.slice none 0 0, .bool false]) ∧ Below w.heap.size w w' := ⟨h.2, h.1⟩
theorem AroundPost.some {w w' : World} {e : Ending} {xs : List Nat} (h : AroundPost (some xs) w e w') : ∃ q c, e = .returned (.tuple #[.slice q xs.length c, .bool true]) ∧ Vals0 w' q (xs.map fun (x : Nat) => Value.int .i64 (x : Int)) ∧ Below w.heap.size w w' := by
  obtain ⟨hb, q, c, he, hv⟩ := h
  exact ⟨q, c, he, hv, hb⟩
theorem capped_kc2 {x y : Ty} {n : Nat} (f : Nat → Nat → Nat) (h : (match x.cnt, y.cnt with | some a, some b => capped (f a b) | _, _ => none) = some n) : ∃ xs, kc [x, y] = some xs := by
  cases hx : x.cnt with
  | none => rw [hx] at h; cases h
  | some a => cases hy : y.cnt with
    | none => rw [hx, hy] at h; cases h
    | some b => exact ⟨[a, b], by simp [kc, hx, hy]⟩
theorem capped_kc1 {x : Ty} {n : Nat} (f : Nat → Option Nat) (h : (match x.cnt with | some a => f a | none => none) = some n) : ∃ xs, kc [x] = some xs := by
  cases hx : x.cnt with
  | none => rw [hx] at h; cases h
  | some a => exact ⟨[a], by simp [kc, hx]⟩
/-- A type with a known count has parts with known counts. -/
theorem cnt_kc {t : Ty} {n : Nat} (h : t.cnt = some n) : ∃ xs, kc t.kids = some xs := by
  cases t with
  | bit => exact ⟨[], rfl⟩
  | pair x y => rw [Ty.cnt] at h; cases hx : x.cnt <;> cases hy : y.cnt <;> simp_all [Ty.kids, kc]
  | thunk x => rw [Ty.cnt] at h; exact ⟨[n], by simp [Ty.kids, kc, h]⟩
  | ret x => rw [Ty.cnt] at h; cases hx : x.cnt <;> simp_all [Ty.kids, kc]
  | fn x y => rw [Ty.cnt] at h; cases hx : x.cnt <;> cases hy : y.cnt <;> simp_all [Ty.kids, kc]
  | choice x y => rw [Ty.cnt] at h; cases hx : x.cnt <;> cases hy : y.cnt <;> simp_all [Ty.kids, kc]
theorem cntV_ge (o : Option Nat) : -1 ≤ cntV o := by
  cases o with
  | none => decide
  | some n => show -1 ≤ (n : Int); omega
theorem cntV_pos {o : Option Nat} {k : Int} (h0 : 0 ≤ k) (h : k < cntV o) : ∃ n, o = some n ∧ cntV o = (n : Int) := by
  cases o with
  | none => have : cntV none = -1 := rfl; omega
  | some n => exact ⟨n, rfl, rfl⟩
theorem isElement_any (k c : Int) (w : World) : Calls Try.prog 61 #[.int .i64 k, .int .i64 c] w fun e w' => e = .returned (.bool (decide (0 ≤ k ∧ k < c))) ∧ w = w' := by
  by_cases h0 : 0 ≤ k
  · by_cases h1 : k < c
    · have e : decide (0 ≤ k ∧ k < c) = true := decide_eq_true ⟨h0, h1⟩
      rw [e]
      go_enter Try.func61, Try.ntmps61
      go_wp2
      go_ret
      exact ⟨rfl, rfl⟩
    · have e : decide (0 ≤ k ∧ k < c) = false := decide_eq_false (fun h => h1 h.2)
      rw [e]
      go_enter Try.func61, Try.ntmps61
      go_wp2
      go_ret
      exact ⟨rfl, rfl⟩
  · have e : decide (0 ≤ k ∧ k < c) = false := decide_eq_false (fun h => h0 h.1)
    rw [e]
    go_enter Try.func61, Try.ntmps61
    go_wp2
    go_ret
    exact ⟨rfl, rfl⟩

set_option maxRecDepth 100000 in
set_option maxHeartbeats 2000000 in
theorem around_bit (s hs : ByteArray) (hsz : s.size ≤ 400000000) (a b : UInt8) (ha : a ≠ 98) (hb : b ≠ 98) (k : Int) (w : World) (hr : readTy s = some Ty.bit)
    (hH : decide (0 ≤ Lib.indexByte hs.data.toList (Ty.headB Ty.bit)) = decide (Ty.headB Ty.bit = a ∨ Ty.headB Ty.bit = b)) :
    Calls Try.prog 54 #[.string s, .string hs, .int .i64 k] w (AroundPost (around (readTy s) a b k) w) := by
  have HC := hid (fun W => readType_any s hsz W)
  have hsm := readTy_small hr
  have HR := hid hr
  have mh := m_head_bit
  have hmm := @run_makeMap Try.prog
  have HT := hid (fun W => (Try.strings_Contains_one hs 98 W).mono fun e w' h => (⟨h.1, h.2.symm⟩ : _ ∧ W = w'))
  have hH' : decide (0 ≤ Lib.indexByte hs.data.toList 98) = decide (Ty.headB Ty.bit = a ∨ Ty.headB Ty.bit = b) := hH
  rw [hH'] at HT
  clear hH'
  have hc : ¬ (Ty.headB Ty.bit = a ∨ Ty.headB Ty.bit = b) := fun h => by rcases h with h | h; exact ha h.symm; exact hb h.symm
  have HN := hid (show around (readTy s) a b k = none by rw [HR.out]; exact if_neg (fun h => hc h.1))
  rw [decide_eq_false hc] at HT
  clear hsm hr hH hc
  go_enter Try.func54, Try.ntmps54
  go_wp2_with (first | (go_at_call 43; refine (HC.out _).mono ?_; rintro e w1 hp; rw [HR.out] at hp; obtain ⟨he1, hb1⟩ := hp.some; simp only [Ty.val] at he1; subst he1; clear hp) | (go_at_call 128; refine (head_bit _).mono ?_; rintro e w2 ⟨rfl, hb2⟩) | (go_at_call 76; refine (HT.out _).mono ?_; rintro e w3 ⟨rfl, rfl⟩))
  go_ret2
  rw [HN.out]
  exact ⟨hb1.trans (hb2.mono hb1.size), rfl⟩

set_option maxRecDepth 100000 in
set_option maxHeartbeats 2000000 in
theorem around_pair (x y : Ty) (s hs : ByteArray) (hsz : s.size ≤ 400000000) (a b : UInt8) (k : Int) (w : World) (hr : readTy s = some (Ty.pair x y))
    (hH : decide (0 ≤ Lib.indexByte hs.data.toList (Ty.headB (Ty.pair x y))) = decide (Ty.headB (Ty.pair x y) = a ∨ Ty.headB (Ty.pair x y) = b)) :
    Calls Try.prog 54 #[.string s, .string hs, .int .i64 k] w (AroundPost (around (readTy s) a b k) w) := by
  have HC := hid (fun W => readType_any s hsz W)
  have hsm := readTy_small hr
  have HR := hid hr
  have mh := m_head_pair x.val y.val
  have hmm := @run_makeMap Try.prog
  have HT := hid (fun W => (Try.strings_Contains_one hs 42 W).mono fun e w' h => (⟨h.1, h.2.symm⟩ : _ ∧ W = w'))
  have hH' : decide (0 ≤ Lib.indexByte hs.data.toList 42) = decide (Ty.headB (Ty.pair x y) = a ∨ Ty.headB (Ty.pair x y) = b) := hH
  rw [hH'] at HT
  clear hH'
  by_cases hc : Ty.headB (Ty.pair x y) = a ∨ Ty.headB (Ty.pair x y) = b
  · rw [decide_eq_true hc] at HT
    have HD := hid (fun (W : World) => count_any (Ty.pair x y) hsm (W.alloc (.map #[] 0)) W.heap.size 0 (.map []) (World.ownsMap_made W Try.prog 9 (plainElem Try.prog 3)) good_none (by omega))
    have HP := hid (fun (W : World) (b n : Nat) (D : DataW Unit) (ho : W.ownsMap Try.prog 9 (plainElem Try.prog 3) b n D) (hg : Good D) (hn : n ≤ 100000) => ofParts_pair x y W b n D ho hg (by simp [lenL, Ty.write] at hsm ⊢; omega) (by intro i t ht; match i, ht with | 0, ht => simp at ht; subst ht; exact fun W n D o g hn => count_any x (by simp [Ty.write] at hsm; omega) W b n D o g hn | 1, ht => simp at ht; subst ht; exact fun W n D o g hn => count_any y (by simp [Ty.write] at hsm; omega) W b n D o g hn))
    simp only [Ty.val] at HD HP
    obtain ⟨V, hV⟩ : ∃ V, cntV (Ty.cnt (Ty.pair x y)) = V := ⟨_, rfl⟩
    rw [hV] at HD
    obtain ⟨L, hL⟩ : ∃ L, (Ty.write (Ty.pair x y)).length = L := ⟨_, rfl⟩
    rw [hL] at HD hsm
    by_cases hk : 0 ≤ k ∧ k < V
    · have dK : decide (0 ≤ k ∧ k < V) = true := decide_eq_true hk
      obtain ⟨m, hm, hm2⟩ := cntV_pos hk.1 (hV ▸ hk.2)
      obtain ⟨xs, hxs⟩ := cnt_kc hm
      have HN := hid (show around (readTy s) a b k = some xs by rw [HR.out, ← hxs]; exact if_pos ⟨hc, hk.1, by rw [hV]; exact hk.2⟩)
      have HXS := hid (show kc [x, y] = some xs from hxs)
      have HLN := hid (kc_len _ _ hxs)
      have HI := hid (fun W => by have := isElement_any k V W; rw [dK] at this; exact this)
      clear hr hH hc hk dK hm hm2 hxs hL hV
      go_enter Try.func54, Try.ntmps54
      go_wp2_with (first | (go_at_call 43; refine (HC.out _).mono ?_; rintro e w1 hp; rw [HR.out] at hp; obtain ⟨he1, hb1⟩ := hp.some; simp only [Ty.val] at he1; subst he1; clear hp) | (go_at_call 133; refine (head_pair _ _ _).mono ?_; rintro e w2 ⟨rfl, hb2⟩) | (go_at_call 76; refine (HT.out _).mono ?_; rintro e w3 ⟨rfl, rfl⟩) | (go_at_call 50; refine (HD.out _).mono ?_; rintro e w4 ⟨rfl, hg4, n4, D4, hn4, hown4, hgd4⟩; have HG4 := hid hg4; have HO4 := hid hown4; have HGD4 := hid hgd4; clear hg4 hown4 hgd4) | (go_at_call 61; refine (HI.out _).mono ?_; rintro e w5 ⟨rfl, rfl⟩) | (go_at_call 77; refine (HP.out _ _ n4 D4 HO4.out HGD4.out (by omega)).mono ?_; rintro e w6 hp; obtain ⟨⟨q, c, rfl, hv6⟩, hg6, _⟩ := hp.yes HXS.out; have HV6 := hid hv6; have HG6 := hid hg6; clear hp hv6 hg6))
      go_ret2
      rw [HN.out]
      exact ⟨grown_below (hb1.trans (hb2.mono hb1.size)) (HG4.out.trans HG6.out), q, c, by rw [HLN.out]; rfl, HV6.out⟩
    · have dK : decide (0 ≤ k ∧ k < V) = false := decide_eq_false hk
      have HN := hid (show around (readTy s) a b k = none by rw [HR.out]; exact if_neg (fun h => hk (by rw [hV] at h; exact h.2)))
      have HI := hid (fun W => by have := isElement_any k V W; rw [dK] at this; exact this)
      clear hr hH hc hk dK hL hV
      go_enter Try.func54, Try.ntmps54
      go_wp2_with (first | (go_at_call 43; refine (HC.out _).mono ?_; rintro e w1 hp; rw [HR.out] at hp; obtain ⟨he1, hb1⟩ := hp.some; simp only [Ty.val] at he1; subst he1; clear hp) | (go_at_call 133; refine (head_pair _ _ _).mono ?_; rintro e w2 ⟨rfl, hb2⟩) | (go_at_call 76; refine (HT.out _).mono ?_; rintro e w3 ⟨rfl, rfl⟩) | (go_at_call 50; refine (HD.out _).mono ?_; rintro e w4 ⟨rfl, hg4, hrest⟩; have HG4 := hid hg4; clear hg4 hrest) | (go_at_call 61; refine (HI.out _).mono ?_; rintro e w5 ⟨rfl, rfl⟩))
      go_ret2
      rw [HN.out]
      exact ⟨grown_below (hb1.trans (hb2.mono hb1.size)) HG4.out, rfl⟩
  · have HN := hid (show around (readTy s) a b k = none by rw [HR.out]; exact if_neg (fun h => hc h.1))
    rw [decide_eq_false hc] at HT
    clear hsm hr hH hc
    go_enter Try.func54, Try.ntmps54
    go_wp2_with (first | (go_at_call 43; refine (HC.out _).mono ?_; rintro e w1 hp; rw [HR.out] at hp; obtain ⟨he1, hb1⟩ := hp.some; simp only [Ty.val] at he1; subst he1; clear hp) | (go_at_call 133; refine (head_pair _ _ _).mono ?_; rintro e w2 ⟨rfl, hb2⟩) | (go_at_call 76; refine (HT.out _).mono ?_; rintro e w3 ⟨rfl, rfl⟩))
    go_ret2
    rw [HN.out]
    exact ⟨hb1.trans (hb2.mono hb1.size), rfl⟩

set_option maxRecDepth 100000 in
set_option maxHeartbeats 2000000 in
theorem around_thunk (x : Ty) (s hs : ByteArray) (hsz : s.size ≤ 400000000) (a b : UInt8) (k : Int) (w : World) (hr : readTy s = some (Ty.thunk x))
    (hH : decide (0 ≤ Lib.indexByte hs.data.toList (Ty.headB (Ty.thunk x))) = decide (Ty.headB (Ty.thunk x) = a ∨ Ty.headB (Ty.thunk x) = b)) :
    Calls Try.prog 54 #[.string s, .string hs, .int .i64 k] w (AroundPost (around (readTy s) a b k) w) := by
  have HC := hid (fun W => readType_any s hsz W)
  have hsm := readTy_small hr
  have HR := hid hr
  have mh := m_head_thunk x.val
  have hmm := @run_makeMap Try.prog
  have HT := hid (fun W => (Try.strings_Contains_one hs 117 W).mono fun e w' h => (⟨h.1, h.2.symm⟩ : _ ∧ W = w'))
  have hH' : decide (0 ≤ Lib.indexByte hs.data.toList 117) = decide (Ty.headB (Ty.thunk x) = a ∨ Ty.headB (Ty.thunk x) = b) := hH
  rw [hH'] at HT
  clear hH'
  by_cases hc : Ty.headB (Ty.thunk x) = a ∨ Ty.headB (Ty.thunk x) = b
  · rw [decide_eq_true hc] at HT
    have HD := hid (fun (W : World) => count_any (Ty.thunk x) hsm (W.alloc (.map #[] 0)) W.heap.size 0 (.map []) (World.ownsMap_made W Try.prog 9 (plainElem Try.prog 3)) good_none (by omega))
    have HP := hid (fun (W : World) (b n : Nat) (D : DataW Unit) (ho : W.ownsMap Try.prog 9 (plainElem Try.prog 3) b n D) (hg : Good D) (hn : n ≤ 100000) => ofParts_thunk x W b n D ho hg (by simp [lenL, Ty.write] at hsm ⊢; omega) (by intro i t ht; match i, ht with | 0, ht => simp at ht; subst ht; exact fun W n D o g hn => count_any x (by simp [Ty.write] at hsm; omega) W b n D o g hn))
    simp only [Ty.val] at HD HP
    obtain ⟨V, hV⟩ : ∃ V, cntV (Ty.cnt (Ty.thunk x)) = V := ⟨_, rfl⟩
    rw [hV] at HD
    obtain ⟨L, hL⟩ : ∃ L, (Ty.write (Ty.thunk x)).length = L := ⟨_, rfl⟩
    rw [hL] at HD hsm
    by_cases hk : 0 ≤ k ∧ k < V
    · have dK : decide (0 ≤ k ∧ k < V) = true := decide_eq_true hk
      obtain ⟨m, hm, hm2⟩ := cntV_pos hk.1 (hV ▸ hk.2)
      obtain ⟨xs, hxs⟩ := cnt_kc hm
      have HN := hid (show around (readTy s) a b k = some xs by rw [HR.out, ← hxs]; exact if_pos ⟨hc, hk.1, by rw [hV]; exact hk.2⟩)
      have HXS := hid (show kc [x] = some xs from hxs)
      have HLN := hid (kc_len _ _ hxs)
      have HI := hid (fun W => by have := isElement_any k V W; rw [dK] at this; exact this)
      clear hr hH hc hk dK hm hm2 hxs hL hV
      go_enter Try.func54, Try.ntmps54
      go_wp2_with (first | (go_at_call 43; refine (HC.out _).mono ?_; rintro e w1 hp; rw [HR.out] at hp; obtain ⟨he1, hb1⟩ := hp.some; simp only [Ty.val] at he1; subst he1; clear hp) | (go_at_call 137; refine (head_thunk _ _).mono ?_; rintro e w2 ⟨rfl, hb2⟩) | (go_at_call 76; refine (HT.out _).mono ?_; rintro e w3 ⟨rfl, rfl⟩) | (go_at_call 50; refine (HD.out _).mono ?_; rintro e w4 ⟨rfl, hg4, n4, D4, hn4, hown4, hgd4⟩; have HG4 := hid hg4; have HO4 := hid hown4; have HGD4 := hid hgd4; clear hg4 hown4 hgd4) | (go_at_call 61; refine (HI.out _).mono ?_; rintro e w5 ⟨rfl, rfl⟩) | (go_at_call 77; refine (HP.out _ _ n4 D4 HO4.out HGD4.out (by omega)).mono ?_; rintro e w6 hp; obtain ⟨⟨q, c, rfl, hv6⟩, hg6, _⟩ := hp.yes HXS.out; have HV6 := hid hv6; have HG6 := hid hg6; clear hp hv6 hg6))
      go_ret2
      rw [HN.out]
      exact ⟨grown_below (hb1.trans (hb2.mono hb1.size)) (HG4.out.trans HG6.out), q, c, by rw [HLN.out]; rfl, HV6.out⟩
    · have dK : decide (0 ≤ k ∧ k < V) = false := decide_eq_false hk
      have HN := hid (show around (readTy s) a b k = none by rw [HR.out]; exact if_neg (fun h => hk (by rw [hV] at h; exact h.2)))
      have HI := hid (fun W => by have := isElement_any k V W; rw [dK] at this; exact this)
      clear hr hH hc hk dK hL hV
      go_enter Try.func54, Try.ntmps54
      go_wp2_with (first | (go_at_call 43; refine (HC.out _).mono ?_; rintro e w1 hp; rw [HR.out] at hp; obtain ⟨he1, hb1⟩ := hp.some; simp only [Ty.val] at he1; subst he1; clear hp) | (go_at_call 137; refine (head_thunk _ _).mono ?_; rintro e w2 ⟨rfl, hb2⟩) | (go_at_call 76; refine (HT.out _).mono ?_; rintro e w3 ⟨rfl, rfl⟩) | (go_at_call 50; refine (HD.out _).mono ?_; rintro e w4 ⟨rfl, hg4, hrest⟩; have HG4 := hid hg4; clear hg4 hrest) | (go_at_call 61; refine (HI.out _).mono ?_; rintro e w5 ⟨rfl, rfl⟩))
      go_ret2
      rw [HN.out]
      exact ⟨grown_below (hb1.trans (hb2.mono hb1.size)) HG4.out, rfl⟩
  · have HN := hid (show around (readTy s) a b k = none by rw [HR.out]; exact if_neg (fun h => hc h.1))
    rw [decide_eq_false hc] at HT
    clear hsm hr hH hc
    go_enter Try.func54, Try.ntmps54
    go_wp2_with (first | (go_at_call 43; refine (HC.out _).mono ?_; rintro e w1 hp; rw [HR.out] at hp; obtain ⟨he1, hb1⟩ := hp.some; simp only [Ty.val] at he1; subst he1; clear hp) | (go_at_call 137; refine (head_thunk _ _).mono ?_; rintro e w2 ⟨rfl, hb2⟩) | (go_at_call 76; refine (HT.out _).mono ?_; rintro e w3 ⟨rfl, rfl⟩))
    go_ret2
    rw [HN.out]
    exact ⟨hb1.trans (hb2.mono hb1.size), rfl⟩

set_option maxRecDepth 100000 in
set_option maxHeartbeats 2000000 in
theorem around_ret (x : Ty) (s hs : ByteArray) (hsz : s.size ≤ 400000000) (a b : UInt8) (k : Int) (w : World) (hr : readTy s = some (Ty.ret x))
    (hH : decide (0 ≤ Lib.indexByte hs.data.toList (Ty.headB (Ty.ret x))) = decide (Ty.headB (Ty.ret x) = a ∨ Ty.headB (Ty.ret x) = b)) :
    Calls Try.prog 54 #[.string s, .string hs, .int .i64 k] w (AroundPost (around (readTy s) a b k) w) := by
  have HC := hid (fun W => readType_any s hsz W)
  have hsm := readTy_small hr
  have HR := hid hr
  have mh := m_head_ret x.val
  have hmm := @run_makeMap Try.prog
  have HT := hid (fun W => (Try.strings_Contains_one hs 102 W).mono fun e w' h => (⟨h.1, h.2.symm⟩ : _ ∧ W = w'))
  have hH' : decide (0 ≤ Lib.indexByte hs.data.toList 102) = decide (Ty.headB (Ty.ret x) = a ∨ Ty.headB (Ty.ret x) = b) := hH
  rw [hH'] at HT
  clear hH'
  by_cases hc : Ty.headB (Ty.ret x) = a ∨ Ty.headB (Ty.ret x) = b
  · rw [decide_eq_true hc] at HT
    have HD := hid (fun (W : World) => count_any (Ty.ret x) hsm (W.alloc (.map #[] 0)) W.heap.size 0 (.map []) (World.ownsMap_made W Try.prog 9 (plainElem Try.prog 3)) good_none (by omega))
    have HP := hid (fun (W : World) (b n : Nat) (D : DataW Unit) (ho : W.ownsMap Try.prog 9 (plainElem Try.prog 3) b n D) (hg : Good D) (hn : n ≤ 100000) => ofParts_ret x W b n D ho hg (by simp [lenL, Ty.write] at hsm ⊢; omega) (by intro i t ht; match i, ht with | 0, ht => simp at ht; subst ht; exact fun W n D o g hn => count_any x (by simp [Ty.write] at hsm; omega) W b n D o g hn))
    simp only [Ty.val] at HD HP
    obtain ⟨V, hV⟩ : ∃ V, cntV (Ty.cnt (Ty.ret x)) = V := ⟨_, rfl⟩
    rw [hV] at HD
    obtain ⟨L, hL⟩ : ∃ L, (Ty.write (Ty.ret x)).length = L := ⟨_, rfl⟩
    rw [hL] at HD hsm
    by_cases hk : 0 ≤ k ∧ k < V
    · have dK : decide (0 ≤ k ∧ k < V) = true := decide_eq_true hk
      obtain ⟨m, hm, hm2⟩ := cntV_pos hk.1 (hV ▸ hk.2)
      obtain ⟨xs, hxs⟩ := cnt_kc hm
      have HN := hid (show around (readTy s) a b k = some xs by rw [HR.out, ← hxs]; exact if_pos ⟨hc, hk.1, by rw [hV]; exact hk.2⟩)
      have HXS := hid (show kc [x] = some xs from hxs)
      have HLN := hid (kc_len _ _ hxs)
      have HI := hid (fun W => by have := isElement_any k V W; rw [dK] at this; exact this)
      clear hr hH hc hk dK hm hm2 hxs hL hV
      go_enter Try.func54, Try.ntmps54
      go_wp2_with (first | (go_at_call 43; refine (HC.out _).mono ?_; rintro e w1 hp; rw [HR.out] at hp; obtain ⟨he1, hb1⟩ := hp.some; simp only [Ty.val] at he1; subst he1; clear hp) | (go_at_call 141; refine (head_ret _ _).mono ?_; rintro e w2 ⟨rfl, hb2⟩) | (go_at_call 76; refine (HT.out _).mono ?_; rintro e w3 ⟨rfl, rfl⟩) | (go_at_call 50; refine (HD.out _).mono ?_; rintro e w4 ⟨rfl, hg4, n4, D4, hn4, hown4, hgd4⟩; have HG4 := hid hg4; have HO4 := hid hown4; have HGD4 := hid hgd4; clear hg4 hown4 hgd4) | (go_at_call 61; refine (HI.out _).mono ?_; rintro e w5 ⟨rfl, rfl⟩) | (go_at_call 77; refine (HP.out _ _ n4 D4 HO4.out HGD4.out (by omega)).mono ?_; rintro e w6 hp; obtain ⟨⟨q, c, rfl, hv6⟩, hg6, _⟩ := hp.yes HXS.out; have HV6 := hid hv6; have HG6 := hid hg6; clear hp hv6 hg6))
      go_ret2
      rw [HN.out]
      exact ⟨grown_below (hb1.trans (hb2.mono hb1.size)) (HG4.out.trans HG6.out), q, c, by rw [HLN.out]; rfl, HV6.out⟩
    · have dK : decide (0 ≤ k ∧ k < V) = false := decide_eq_false hk
      have HN := hid (show around (readTy s) a b k = none by rw [HR.out]; exact if_neg (fun h => hk (by rw [hV] at h; exact h.2)))
      have HI := hid (fun W => by have := isElement_any k V W; rw [dK] at this; exact this)
      clear hr hH hc hk dK hL hV
      go_enter Try.func54, Try.ntmps54
      go_wp2_with (first | (go_at_call 43; refine (HC.out _).mono ?_; rintro e w1 hp; rw [HR.out] at hp; obtain ⟨he1, hb1⟩ := hp.some; simp only [Ty.val] at he1; subst he1; clear hp) | (go_at_call 141; refine (head_ret _ _).mono ?_; rintro e w2 ⟨rfl, hb2⟩) | (go_at_call 76; refine (HT.out _).mono ?_; rintro e w3 ⟨rfl, rfl⟩) | (go_at_call 50; refine (HD.out _).mono ?_; rintro e w4 ⟨rfl, hg4, hrest⟩; have HG4 := hid hg4; clear hg4 hrest) | (go_at_call 61; refine (HI.out _).mono ?_; rintro e w5 ⟨rfl, rfl⟩))
      go_ret2
      rw [HN.out]
      exact ⟨grown_below (hb1.trans (hb2.mono hb1.size)) HG4.out, rfl⟩
  · have HN := hid (show around (readTy s) a b k = none by rw [HR.out]; exact if_neg (fun h => hc h.1))
    rw [decide_eq_false hc] at HT
    clear hsm hr hH hc
    go_enter Try.func54, Try.ntmps54
    go_wp2_with (first | (go_at_call 43; refine (HC.out _).mono ?_; rintro e w1 hp; rw [HR.out] at hp; obtain ⟨he1, hb1⟩ := hp.some; simp only [Ty.val] at he1; subst he1; clear hp) | (go_at_call 141; refine (head_ret _ _).mono ?_; rintro e w2 ⟨rfl, hb2⟩) | (go_at_call 76; refine (HT.out _).mono ?_; rintro e w3 ⟨rfl, rfl⟩))
    go_ret2
    rw [HN.out]
    exact ⟨hb1.trans (hb2.mono hb1.size), rfl⟩

set_option maxRecDepth 100000 in
set_option maxHeartbeats 2000000 in
theorem around_fn (x y : Ty) (s hs : ByteArray) (hsz : s.size ≤ 400000000) (a b : UInt8) (k : Int) (w : World) (hr : readTy s = some (Ty.fn x y))
    (hH : decide (0 ≤ Lib.indexByte hs.data.toList (Ty.headB (Ty.fn x y))) = decide (Ty.headB (Ty.fn x y) = a ∨ Ty.headB (Ty.fn x y) = b)) :
    Calls Try.prog 54 #[.string s, .string hs, .int .i64 k] w (AroundPost (around (readTy s) a b k) w) := by
  have HC := hid (fun W => readType_any s hsz W)
  have hsm := readTy_small hr
  have HR := hid hr
  have mh := m_head_fn x.val y.val
  have hmm := @run_makeMap Try.prog
  have HT := hid (fun W => (Try.strings_Contains_one hs 62 W).mono fun e w' h => (⟨h.1, h.2.symm⟩ : _ ∧ W = w'))
  have hH' : decide (0 ≤ Lib.indexByte hs.data.toList 62) = decide (Ty.headB (Ty.fn x y) = a ∨ Ty.headB (Ty.fn x y) = b) := hH
  rw [hH'] at HT
  clear hH'
  by_cases hc : Ty.headB (Ty.fn x y) = a ∨ Ty.headB (Ty.fn x y) = b
  · rw [decide_eq_true hc] at HT
    have HD := hid (fun (W : World) => count_any (Ty.fn x y) hsm (W.alloc (.map #[] 0)) W.heap.size 0 (.map []) (World.ownsMap_made W Try.prog 9 (plainElem Try.prog 3)) good_none (by omega))
    have HP := hid (fun (W : World) (b n : Nat) (D : DataW Unit) (ho : W.ownsMap Try.prog 9 (plainElem Try.prog 3) b n D) (hg : Good D) (hn : n ≤ 100000) => ofParts_fn x y W b n D ho hg (by simp [lenL, Ty.write] at hsm ⊢; omega) (by intro i t ht; match i, ht with | 0, ht => simp at ht; subst ht; exact fun W n D o g hn => count_any x (by simp [Ty.write] at hsm; omega) W b n D o g hn | 1, ht => simp at ht; subst ht; exact fun W n D o g hn => count_any y (by simp [Ty.write] at hsm; omega) W b n D o g hn))
    simp only [Ty.val] at HD HP
    obtain ⟨V, hV⟩ : ∃ V, cntV (Ty.cnt (Ty.fn x y)) = V := ⟨_, rfl⟩
    rw [hV] at HD
    obtain ⟨L, hL⟩ : ∃ L, (Ty.write (Ty.fn x y)).length = L := ⟨_, rfl⟩
    rw [hL] at HD hsm
    by_cases hk : 0 ≤ k ∧ k < V
    · have dK : decide (0 ≤ k ∧ k < V) = true := decide_eq_true hk
      obtain ⟨m, hm, hm2⟩ := cntV_pos hk.1 (hV ▸ hk.2)
      obtain ⟨xs, hxs⟩ := cnt_kc hm
      have HN := hid (show around (readTy s) a b k = some xs by rw [HR.out, ← hxs]; exact if_pos ⟨hc, hk.1, by rw [hV]; exact hk.2⟩)
      have HXS := hid (show kc [x, y] = some xs from hxs)
      have HLN := hid (kc_len _ _ hxs)
      have HI := hid (fun W => by have := isElement_any k V W; rw [dK] at this; exact this)
      clear hr hH hc hk dK hm hm2 hxs hL hV
      go_enter Try.func54, Try.ntmps54
      go_wp2_with (first | (go_at_call 43; refine (HC.out _).mono ?_; rintro e w1 hp; rw [HR.out] at hp; obtain ⟨he1, hb1⟩ := hp.some; simp only [Ty.val] at he1; subst he1; clear hp) | (go_at_call 145; refine (head_fn _ _ _).mono ?_; rintro e w2 ⟨rfl, hb2⟩) | (go_at_call 76; refine (HT.out _).mono ?_; rintro e w3 ⟨rfl, rfl⟩) | (go_at_call 50; refine (HD.out _).mono ?_; rintro e w4 ⟨rfl, hg4, n4, D4, hn4, hown4, hgd4⟩; have HG4 := hid hg4; have HO4 := hid hown4; have HGD4 := hid hgd4; clear hg4 hown4 hgd4) | (go_at_call 61; refine (HI.out _).mono ?_; rintro e w5 ⟨rfl, rfl⟩) | (go_at_call 77; refine (HP.out _ _ n4 D4 HO4.out HGD4.out (by omega)).mono ?_; rintro e w6 hp; obtain ⟨⟨q, c, rfl, hv6⟩, hg6, _⟩ := hp.yes HXS.out; have HV6 := hid hv6; have HG6 := hid hg6; clear hp hv6 hg6))
      go_ret2
      rw [HN.out]
      exact ⟨grown_below (hb1.trans (hb2.mono hb1.size)) (HG4.out.trans HG6.out), q, c, by rw [HLN.out]; rfl, HV6.out⟩
    · have dK : decide (0 ≤ k ∧ k < V) = false := decide_eq_false hk
      have HN := hid (show around (readTy s) a b k = none by rw [HR.out]; exact if_neg (fun h => hk (by rw [hV] at h; exact h.2)))
      have HI := hid (fun W => by have := isElement_any k V W; rw [dK] at this; exact this)
      clear hr hH hc hk dK hL hV
      go_enter Try.func54, Try.ntmps54
      go_wp2_with (first | (go_at_call 43; refine (HC.out _).mono ?_; rintro e w1 hp; rw [HR.out] at hp; obtain ⟨he1, hb1⟩ := hp.some; simp only [Ty.val] at he1; subst he1; clear hp) | (go_at_call 145; refine (head_fn _ _ _).mono ?_; rintro e w2 ⟨rfl, hb2⟩) | (go_at_call 76; refine (HT.out _).mono ?_; rintro e w3 ⟨rfl, rfl⟩) | (go_at_call 50; refine (HD.out _).mono ?_; rintro e w4 ⟨rfl, hg4, hrest⟩; have HG4 := hid hg4; clear hg4 hrest) | (go_at_call 61; refine (HI.out _).mono ?_; rintro e w5 ⟨rfl, rfl⟩))
      go_ret2
      rw [HN.out]
      exact ⟨grown_below (hb1.trans (hb2.mono hb1.size)) HG4.out, rfl⟩
  · have HN := hid (show around (readTy s) a b k = none by rw [HR.out]; exact if_neg (fun h => hc h.1))
    rw [decide_eq_false hc] at HT
    clear hsm hr hH hc
    go_enter Try.func54, Try.ntmps54
    go_wp2_with (first | (go_at_call 43; refine (HC.out _).mono ?_; rintro e w1 hp; rw [HR.out] at hp; obtain ⟨he1, hb1⟩ := hp.some; simp only [Ty.val] at he1; subst he1; clear hp) | (go_at_call 145; refine (head_fn _ _ _).mono ?_; rintro e w2 ⟨rfl, hb2⟩) | (go_at_call 76; refine (HT.out _).mono ?_; rintro e w3 ⟨rfl, rfl⟩))
    go_ret2
    rw [HN.out]
    exact ⟨hb1.trans (hb2.mono hb1.size), rfl⟩

set_option maxRecDepth 100000 in
set_option maxHeartbeats 2000000 in
theorem around_choice (x y : Ty) (s hs : ByteArray) (hsz : s.size ≤ 400000000) (a b : UInt8) (k : Int) (w : World) (hr : readTy s = some (Ty.choice x y))
    (hH : decide (0 ≤ Lib.indexByte hs.data.toList (Ty.headB (Ty.choice x y))) = decide (Ty.headB (Ty.choice x y) = a ∨ Ty.headB (Ty.choice x y) = b)) :
    Calls Try.prog 54 #[.string s, .string hs, .int .i64 k] w (AroundPost (around (readTy s) a b k) w) := by
  have HC := hid (fun W => readType_any s hsz W)
  have hsm := readTy_small hr
  have HR := hid hr
  have mh := m_head_choice x.val y.val
  have hmm := @run_makeMap Try.prog
  have HT := hid (fun W => (Try.strings_Contains_one hs 38 W).mono fun e w' h => (⟨h.1, h.2.symm⟩ : _ ∧ W = w'))
  have hH' : decide (0 ≤ Lib.indexByte hs.data.toList 38) = decide (Ty.headB (Ty.choice x y) = a ∨ Ty.headB (Ty.choice x y) = b) := hH
  rw [hH'] at HT
  clear hH'
  by_cases hc : Ty.headB (Ty.choice x y) = a ∨ Ty.headB (Ty.choice x y) = b
  · rw [decide_eq_true hc] at HT
    have HD := hid (fun (W : World) => count_any (Ty.choice x y) hsm (W.alloc (.map #[] 0)) W.heap.size 0 (.map []) (World.ownsMap_made W Try.prog 9 (plainElem Try.prog 3)) good_none (by omega))
    have HP := hid (fun (W : World) (b n : Nat) (D : DataW Unit) (ho : W.ownsMap Try.prog 9 (plainElem Try.prog 3) b n D) (hg : Good D) (hn : n ≤ 100000) => ofParts_choice x y W b n D ho hg (by simp [lenL, Ty.write] at hsm ⊢; omega) (by intro i t ht; match i, ht with | 0, ht => simp at ht; subst ht; exact fun W n D o g hn => count_any x (by simp [Ty.write] at hsm; omega) W b n D o g hn | 1, ht => simp at ht; subst ht; exact fun W n D o g hn => count_any y (by simp [Ty.write] at hsm; omega) W b n D o g hn))
    simp only [Ty.val] at HD HP
    obtain ⟨V, hV⟩ : ∃ V, cntV (Ty.cnt (Ty.choice x y)) = V := ⟨_, rfl⟩
    rw [hV] at HD
    obtain ⟨L, hL⟩ : ∃ L, (Ty.write (Ty.choice x y)).length = L := ⟨_, rfl⟩
    rw [hL] at HD hsm
    by_cases hk : 0 ≤ k ∧ k < V
    · have dK : decide (0 ≤ k ∧ k < V) = true := decide_eq_true hk
      obtain ⟨m, hm, hm2⟩ := cntV_pos hk.1 (hV ▸ hk.2)
      obtain ⟨xs, hxs⟩ := cnt_kc hm
      have HN := hid (show around (readTy s) a b k = some xs by rw [HR.out, ← hxs]; exact if_pos ⟨hc, hk.1, by rw [hV]; exact hk.2⟩)
      have HXS := hid (show kc [x, y] = some xs from hxs)
      have HLN := hid (kc_len _ _ hxs)
      have HI := hid (fun W => by have := isElement_any k V W; rw [dK] at this; exact this)
      clear hr hH hc hk dK hm hm2 hxs hL hV
      go_enter Try.func54, Try.ntmps54
      go_wp2_with (first | (go_at_call 43; refine (HC.out _).mono ?_; rintro e w1 hp; rw [HR.out] at hp; obtain ⟨he1, hb1⟩ := hp.some; simp only [Ty.val] at he1; subst he1; clear hp) | (go_at_call 149; refine (head_choice _ _ _).mono ?_; rintro e w2 ⟨rfl, hb2⟩) | (go_at_call 76; refine (HT.out _).mono ?_; rintro e w3 ⟨rfl, rfl⟩) | (go_at_call 50; refine (HD.out _).mono ?_; rintro e w4 ⟨rfl, hg4, n4, D4, hn4, hown4, hgd4⟩; have HG4 := hid hg4; have HO4 := hid hown4; have HGD4 := hid hgd4; clear hg4 hown4 hgd4) | (go_at_call 61; refine (HI.out _).mono ?_; rintro e w5 ⟨rfl, rfl⟩) | (go_at_call 77; refine (HP.out _ _ n4 D4 HO4.out HGD4.out (by omega)).mono ?_; rintro e w6 hp; obtain ⟨⟨q, c, rfl, hv6⟩, hg6, _⟩ := hp.yes HXS.out; have HV6 := hid hv6; have HG6 := hid hg6; clear hp hv6 hg6))
      go_ret2
      rw [HN.out]
      exact ⟨grown_below (hb1.trans (hb2.mono hb1.size)) (HG4.out.trans HG6.out), q, c, by rw [HLN.out]; rfl, HV6.out⟩
    · have dK : decide (0 ≤ k ∧ k < V) = false := decide_eq_false hk
      have HN := hid (show around (readTy s) a b k = none by rw [HR.out]; exact if_neg (fun h => hk (by rw [hV] at h; exact h.2)))
      have HI := hid (fun W => by have := isElement_any k V W; rw [dK] at this; exact this)
      clear hr hH hc hk dK hL hV
      go_enter Try.func54, Try.ntmps54
      go_wp2_with (first | (go_at_call 43; refine (HC.out _).mono ?_; rintro e w1 hp; rw [HR.out] at hp; obtain ⟨he1, hb1⟩ := hp.some; simp only [Ty.val] at he1; subst he1; clear hp) | (go_at_call 149; refine (head_choice _ _ _).mono ?_; rintro e w2 ⟨rfl, hb2⟩) | (go_at_call 76; refine (HT.out _).mono ?_; rintro e w3 ⟨rfl, rfl⟩) | (go_at_call 50; refine (HD.out _).mono ?_; rintro e w4 ⟨rfl, hg4, hrest⟩; have HG4 := hid hg4; clear hg4 hrest) | (go_at_call 61; refine (HI.out _).mono ?_; rintro e w5 ⟨rfl, rfl⟩))
      go_ret2
      rw [HN.out]
      exact ⟨grown_below (hb1.trans (hb2.mono hb1.size)) HG4.out, rfl⟩
  · have HN := hid (show around (readTy s) a b k = none by rw [HR.out]; exact if_neg (fun h => hc h.1))
    rw [decide_eq_false hc] at HT
    clear hsm hr hH hc
    go_enter Try.func54, Try.ntmps54
    go_wp2_with (first | (go_at_call 43; refine (HC.out _).mono ?_; rintro e w1 hp; rw [HR.out] at hp; obtain ⟨he1, hb1⟩ := hp.some; simp only [Ty.val] at he1; subst he1; clear hp) | (go_at_call 149; refine (head_choice _ _ _).mono ?_; rintro e w2 ⟨rfl, hb2⟩) | (go_at_call 76; refine (HT.out _).mono ?_; rintro e w3 ⟨rfl, rfl⟩))
    go_ret2
    rw [HN.out]
    exact ⟨hb1.trans (hb2.mono hb1.size), rfl⟩

set_option maxRecDepth 100000 in
set_option maxHeartbeats 2000000 in
theorem around_none (s hs : ByteArray) (hsz : s.size ≤ 400000000) (a b : UInt8) (k : Int) (w : World) (hr : readTy s = none) :
    Calls Try.prog 54 #[.string s, .string hs, .int .i64 k] w (AroundPost (around (readTy s) a b k) w) := by
  have HC := hid (fun W => readType_any s hsz W)
  have HR := hid hr
  clear hr
  go_enter Try.func54, Try.ntmps54
  go_wp2_with (go_at_call 43; refine (HC.out _).mono ?_; rintro e w1 hp; rw [HR.out] at hp; obtain ⟨rfl, hb1⟩ := hp.none; clear hp)
  go_ret2
  rw [HR.out]
  exact ⟨hb1, rfl⟩
/-- THE PROGRAM's COUNTS AROUND. -/
theorem around_any (s hs : ByteArray) (hsz : s.size ≤ 400000000) (a b : UInt8) (ha : a ≠ 98) (hb : b ≠ 98) (k : Int) (w : World)
    (hH : ∀ t : Ty, decide (0 ≤ Lib.indexByte hs.data.toList t.headB) = decide (t.headB = a ∨ t.headB = b)) :
    Calls Try.prog 54 #[.string s, .string hs, .int .i64 k] w (AroundPost (around (readTy s) a b k) w) := by
  cases hr : readTy s with
  | none => rw [← hr]; exact around_none s hs hsz a b k w hr
  | some t =>
    rw [← hr]
    cases t with
    | bit => exact around_bit s hs hsz a b ha hb k w hr (hH _)
    | pair x y => exact around_pair x y s hs hsz a b k w hr (hH _)
    | thunk x => exact around_thunk x s hs hsz a b k w hr (hH _)
    | ret x => exact around_ret x s hs hsz a b k w hr (hH _)
    | fn x y => exact around_fn x y s hs hsz a b k w hr (hH _)
    | choice x y => exact around_choice x y s hs hsz a b k w hr (hH _)
end Go.Proofs.Ytknjpdbdchnpeaa
