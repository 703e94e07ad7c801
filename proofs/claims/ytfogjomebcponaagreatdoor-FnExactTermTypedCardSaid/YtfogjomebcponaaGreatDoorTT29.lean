/- Merged: TmkS, BndS. -/
import Derived.Test.YtfogjomebcponaaGreatDoorTT26
import Derived.Test.YtfogjomebcponaaGreatDoorTT10
import Derived.Test.YtfogjomebcponaaGreatDoorTT18
import Derived.Test.YtfogjomebcponaaGreatDoorTT9
import Derived.Test.YtfogjomebcponaaGreatDoorTT12
import Derived.Test.YtfogjomebcponaaGreatDoorTT8
namespace Go.Proofs.YtfogjomebcponaaGreatDoor
open Go.RowKit

/-- A part of a type with a head, or none. -/
def partO (o : Option Ty) (h : List UInt8) (i : Nat) : Option Ty := match o with
  | some t => if [t.headB] = h then t.kids[i]? else none
  | none => none
theorem readTy_txtO {o : Option Ty} (hg : ∀ t, o = some t → t.good) : readTy (txtO o) = o := by
  cases o with
  | none =>
    rw [txtO]
    decide
  | some t => rw [txtO]; exact readTy_good_text (hg t rfl)
theorem txtO_size {o : Option Ty} (hg : ∀ t, o = some t → t.good) : (txtO o).size ≤ 60 := by
  cases o with
  | none => rw [txtO]; decide
  | some t =>
    rw [txtO, size_toList, ty_txt_toList]
    have := ty_write_len t
    have := (hg t rfl).2
    omega

set_option maxHeartbeats 1000000 in
theorem l3Part_any (o : Option Ty) (hg : ∀ t, o = some t → t.good) (hd : ByteArray) (hne : hd.toList ≠ []) (i : Nat) (hi : ∀ t, o = some t → [t.headB] = hd.toList → i < t.kids.length) (w : World) :
    Calls Tryz.prog 101 #[.string (txtO o), .string hd, .int .i64 (i : Int)] w fun e w' => e = .returned (.string (txtO (partO o hd.toList i))) ∧ Below w.heap.size w w' := by
  have hsz : (txtO o).size ≤ 400000000 := by have := txtO_size hg; omega
  have HH := hid (fun W => specTypeHead_any (txtO o) hsz W)
  have HK := hid (fun W => specTypeKids_any (txtO o) hsz W)
  rw [readTy_txtO hg] at HH HK
  cases o with
  | none =>
    have hq : ((headOf none).toList == hd.toList) = false := by
      rw [beq_eq_false_iff_ne, headOf]; exact fun h => hne (by rw [← h, Go.ByteArray.toList_eq]; rfl)
    have hq2 : (!(headOf none).toList == hd.toList) = true := by rw [hq]; rfl
    generalize headOf none = r at HH hq hq2
    generalize txtO none = s at HH HK
    go_enter Tryz.func101, Tryz.ntmps101
    go_wp2_with (go_at_call 103; refine (HH.out _).mono ?_; rintro e w1 ⟨rfl, hb1⟩)
    go_ret
    exact ⟨rfl, hb1⟩
  | some t =>
    have hh : (headOf (some t)).toList = [t.headB] := by rw [headOf, Go.ByteArray.toList_eq]
    by_cases hq0 : [t.headB] = hd.toList
    · have hq : ((headOf (some t)).toList == hd.toList) = true := by rw [hh, hq0]; simp
      have hq2 : (!(headOf (some t)).toList == hd.toList) = false := by rw [hq]; rfl
      have hik := hi t rfl hq0
      obtain ⟨k, hk⟩ : ∃ k, t.kids[i]? = some k := ⟨_, List.getElem?_eq_getElem hik⟩
      have HP := hid (show txtO (partO (some t) hd.toList i) = k.text by rw [partO]; rw [if_pos hq0, hk]; rfl)
      have hlen : t.kids.length ≤ 2 := by cases t <;> simp [Ty.kids]
      have HKK := hid (show ((kidsO (some t)).map fun t => Value.string t.text)[i]? = some (.string k.text) by rw [kidsO, List.getElem?_map, hk]; rfl)
      have hkl : (kidsO (some t)).length = t.kids.length := rfl
      obtain ⟨n, hn⟩ : ∃ n, (kidsO (some t)).length = n := ⟨_, rfl⟩
      have hin : i < n := by omega
      have hn2 : n ≤ 2 := by omega
      have HN := hid hn
      have HK2 := hid (fun W => (HK.out W).mono fun e w' (h : KidsPost (some t) W e w') => (show ∃ g c, e = .returned (.tuple #[.slice (some ⟨g, 0, none⟩) n c, .bool true]) ∧ w'.cell? ⟨g, 0 + i, none⟩ = some (.string k.text) ∧ Below W.heap.size W w' from by
        obtain ⟨⟨q, c, he, hown⟩, hb⟩ := h
        obtain ⟨g, rfl, _, _, _, hc⟩ := own_slice hown (by rw [HN.out]; omega)
        exact ⟨g, c, by rw [he, HN.out]; rfl, hc i _ HKK.out, hb⟩))
      rw [HP.out]
      generalize headOf (some t) = r at HH hq hq2
      generalize txtO (some t) = s at HH HK2
      clear HK hk hkl hn hi hik hh hq0 hg hsz
      go_enter Tryz.func101, Tryz.ntmps101
      go_wp2_with (first
        | (go_at_call 117; have _ := hb1; refine (HK2.out _).mono ?_; rintro e w2 ⟨g, c, rfl, hc, hb2⟩; rw [Nat.zero_add] at hc)
        | (go_at_call 103; refine (HH.out _).mono ?_; rintro e w1 ⟨rfl, hb1⟩))
      go_ret
      exact ⟨rfl, hb1.trans (hb2.mono hb1.size)⟩
    · have hq : ((headOf (some t)).toList == hd.toList) = false := by rw [hh, beq_eq_false_iff_ne]; exact hq0
      have hq2 : (!(headOf (some t)).toList == hd.toList) = true := by rw [hq]; rfl
      have HP := hid (show txtO (partO (some t) hd.toList i) = ByteArray.empty by rw [partO]; rw [if_neg hq0]; rfl)
      rw [HP.out]
      generalize headOf (some t) = r at HH hq hq2
      generalize txtO (some t) = s at HH HK
      go_enter Tryz.func101, Tryz.ntmps101
      go_wp2_with (go_at_call 103; refine (HH.out _).mono ?_; rintro e w1 ⟨rfl, hb1⟩)
      go_ret
      exact ⟨rfl, hb1⟩

theorem bytes_eq {a b : ByteArray} (h : a.toList = b.toList) : a = b := by rw [bytes_of_toList h, ← bytes_of_toList (a := b) rfl]
/-- Spaces and parts. -/
def spT : List ByteArray → List UInt8
  | [] => []
  | x :: xs => 32 :: (x.toList ++ spT xs)
theorem spT_take {l : List ByteArray} {i : Nat} {x : ByteArray} (h : l[i]? = some x) : spT (l.take (i + 1)) = spT (l.take i) ++ 32 :: x.toList := by
  have := drop_at h
  induction l generalizing i with
  | nil => simp at h
  | cons y l ih =>
    cases i with
    | zero => simp at h; subst h; simp [spT]
    | succ i =>
      simp only [List.take_succ_cons, spT]
      rw [ih (by simpa using h) (drop_at (by simpa using h))]
      simp
set_option maxRecDepth 100000 in
set_option maxHeartbeats 1000000 in
theorem l3Make_any (hd : ByteArray) (hds : hd.size ≤ 10) (ps : List ByteArray) (hps : ∀ x ∈ ps, x.size ≤ 1000) (T : Ty) (hw : T.wf = true) (ha : T.atoms ≤ 100) (hT : T.write = 40 :: (hd.toList ++ spT ps ++ [41]))
    (p : Option Addr) (n c : Nat) (w : World) (hn : ps.length = n) (hn3 : n ≤ 3) (hp : Vals w p (ps.map Value.string)) :
    Calls Tryz.prog 100 #[.string hd, .slice p n c] w fun e w' => e = .returned (.string (txtO (limT (some T)))) ∧ Below w.heap.size w w' := by
  have hrd := readTy_text hw ha
  have hTs : T.text.size ≤ 400000000 := by rw [size_toList, ty_txt_toList]; have := ty_write_len T; omega
  have HC := hid (fun W => specTypeKind_any T.text hTs W)
  rw [hrd] at HC
  have HT := hid (show T.text.toList = 40 :: (hd.toList ++ spT ps ++ [41]) by rw [ty_txt_toList]; exact hT)
  have HN := hid hn
  have HP := hid hp
  have HPS := hid hps
  obtain ⟨K, hK⟩ : ∃ K, kindOf (limT (some T)) = K := ⟨_, rfl⟩
  rw [hK] at HC
  obtain ⟨R, hR⟩ : ∃ R, txtO (limT (some T)) = R := ⟨_, rfl⟩
  rw [hR]
  have hKR : K.toList.isEmpty = true ∧ R = ByteArray.empty ∨ K.toList.isEmpty = false ∧ R = T.text := by
    subst hK; subst hR
    by_cases h12 : T.atoms ≤ 12
    · right
      rw [limT, if_pos h12]
      refine ⟨?_, rfl⟩
      exact kindS_some T
    · left
      rw [limT, if_neg h12]
      exact ⟨by rw [kindOf, Go.ByteArray.toList_eq]; rfl, rfl⟩
  have HKR := hid hKR
  clear hK hR hKR hn hp hps hT hTs hrd
  go_enter Tryz.func100, Tryz.ntmps100
  go_wp2_with fail
  go_loop [5, 6] (fun v u => ∃ (j : Nat) (o : ByteArray), j ≤ n ∧ u = .int .i64 (j : Int) ∧ v = .string o ∧ o.size ≤ 20 + j * 1001 ∧ Hid (o.toList = 40 :: (hd.toList ++ spT (ps.take j)))) (fun _ u => n - (intOf u).toNat)
  case atStart => exact ⟨0, _, Nat.zero_le _, rfl, rfl, by rw [ByteArray.size_append]; have : ({ data := #[40] } : ByteArray).size = 1 := rfl; omega, hid (by rw [append_toList, Go.ByteArray.toList_eq]; simp [spT])⟩
  case round =>
    obtain ⟨j, o, hj, rfl, rfl, ho, hol⟩ := hrel
    by_cases hlt : j < n
    · obtain ⟨x, hx⟩ : ∃ x, ps[j]? = some x := ⟨_, List.getElem?_eq_getElem (by rw [HN.out]; exact hlt)⟩
      obtain ⟨b, o2, rfl, hc⟩ := HP.out j (.string x) (by simp [hx])
      have hxs := HPS.out x (List.mem_of_getElem? hx)
      have HNX := hid (show ((o ++ ({ data := #[32] } : ByteArray)) ++ x).toList = 40 :: (hd.toList ++ spT (ps.take (j + 1))) by rw [append_toList, append_toList, hol.out, space_toList, spT_take hx]; simp)
      have HNS := hid (show ((o ++ ({ data := #[32] } : ByteArray)) ++ x).size ≤ 20 + (j + 1) * 1001 by rw [ByteArray.size_append, ByteArray.size_append]; have : ({ data := #[32] } : ByteArray).size = 1 := rfl; omega)
      clear hx
      go_wp2_with fail
      go_round
      case rel => exact ⟨j + 1, _, by omega, by go_num, rfl, HNS.out, HNX⟩
      case measure => simp [intOf]; omega
    · have hjn : j = n := by omega
      have HE := hid (show o ++ ({ data := #[41] } : ByteArray) = T.text from bytes_eq (by rw [append_toList, hol.out, HT.out, hjn, ← HN.out, List.take_length]; simp [Go.ByteArray.toList_eq]))
      clear hjn
      rcases HKR.out with ⟨hk, hR⟩ | ⟨hk, hR⟩
      · have HR := hid hR
        clear hR
        go_wp2_with (go_at_call 58; rw [HE.out]; refine (HC.out _).mono ?_; rintro e w1 ⟨rfl, hb1⟩)
        go_ret
        exact ⟨ret_str HR.out.symm, hb1⟩
      · have HR := hid hR
        clear hR
        go_wp2_with (go_at_call 58; rw [HE.out]; refine (HC.out _).mono ?_; rintro e w1 ⟨rfl, hb1⟩)
        go_ret
        exact ⟨ret_str HR.out.symm, hb1⟩
end Go.Proofs.YtfogjomebcponaaGreatDoor

namespace Go.Proofs.YtfogjomebcponaaGreatDoor
open Go.RowKit

/-- The texts of the types of the names that a head binds; empty ones where the first part's type tells none. -/
def bndS (h : List UInt8) (ty first : Option Ty) : List ByteArray :=
  if h = [116, 111] then [txtO (partO first [102] 0)]
  else if h = [115, 112, 108, 105, 116] then [txtO (partO first [42] 0), txtO (partO first [42] 1)]
  else if h = [108, 97, 109] then [txtO ty]
  else if h = [103, 101, 116] then [Ty.bit.text]
  else []
theorem hasB_nil (l : List ByteArray) : hasB l [] = true ↔ ∃ x ∈ l, x.toList = [] := by
  unfold hasB
  rw [List.contains_iff_mem, List.mem_map]
theorem bndS_some {h : List UInt8} {ty first : Option Ty} {ts : List Ty} (hb : bndT h ty first = some ts) : bndS h ty first = ts.map Ty.text ∧ hasB (bndS h ty first) [] = false := by
  have key : bndS h ty first = ts.map Ty.text := by
    unfold bndT at hb
    unfold bndS
    split at hb
    · rename_i c; rw [if_pos c]
      split at hb
      · simp at hb; subst hb; rfl
      · simp at hb
    · rename_i c; rw [if_neg c]
      split at hb
      · rename_i c; rw [if_pos c]
        split at hb
        · simp at hb; subst hb; rfl
        · simp at hb
      · rename_i c; rw [if_neg c]
        split at hb
        · rename_i c; rw [if_pos c]
          cases ty with
          | none => simp at hb
          | some t => simp at hb; subst hb; rfl
        · rename_i c; rw [if_neg c]
          split at hb
          · rename_i c; rw [if_pos c]; simp at hb; subst hb; rfl
          · rename_i c; rw [if_neg c]; simp at hb; subst hb; rfl
  refine ⟨key, ?_⟩
  rw [key]
  cases hq : hasB (ts.map Ty.text) [] with
  | false => rfl
  | true =>
    obtain ⟨x, hx, hn⟩ := (hasB_nil _).1 hq
    obtain ⟨t, _, rfl⟩ := List.mem_map.1 hx
    have := (txtO_nil (some t)).1 hn
    simp at this
theorem bndS_none {h : List UInt8} {ty first : Option Ty} (hb : bndT h ty first = none) : hasB (bndS h ty first) [] = true := by
  have e0 : (txtO none).toList = [] := (txtO_nil none).2 rfl
  have one : ∀ {x : ByteArray} {l : List ByteArray}, x.toList = [] → hasB (x :: l) [] = true := fun h => (hasB_nil _).2 ⟨_, List.mem_cons_self .., h⟩
  unfold bndT at hb
  unfold bndS
  split at hb
  · rename_i c; rw [if_pos c]
    have : partO first [102] 0 = none := by
      cases first with
      | none => rfl
      | some t => cases t <;> first | rfl | simp at hb
    rw [this]; exact one e0
  · rename_i c; rw [if_neg c]
    split at hb
    · rename_i c; rw [if_pos c]
      have : partO first [42] 0 = none := by
        cases first with
        | none => rfl
        | some t => cases t <;> first | rfl | simp at hb
      rw [this]; exact one e0
    · rename_i c; rw [if_neg c]
      split at hb
      · rename_i c; rw [if_pos c]
        cases ty with
        | none => exact one e0
        | some t => simp at hb
      · rename_i c; rw [if_neg c]
        split at hb
        · simp at hb
        · simp at hb

theorem ownS_built (xs : List ByteArray) (hx : xs.length ≤ 10) {w W : World} (hb : Below w.heap.size w W) (e : Ending) (W' : World) (he : e = .returned (.slice (some ⟨W.heap.size, 0, none⟩) xs.length xs.length)) (hw : W' = W.alloc (.cells (xs.map Value.string).toArray 9)) : OwnS xs w e W' := by
  subst hw
  exact ⟨_, _, he, ⟨by simp, .inr ⟨_, _, _, rfl, hb.size, heap_alloc_new W _, Nat.le_refl _, by unfold maxLen; omega, by simp, by simpa using List.take_of_length_le (by simp)⟩⟩, hb.alloc hb.size _⟩
set_option maxRecDepth 100000 in
set_option maxHeartbeats 4000000 in
/-- THE TYPES OF THE NAMES THAT A TERM BINDS, BY THE MODEL. -/
theorem l3Bound_any (q : Tree) (b n cap : Nat) (a : ByteArray) (ty first : Option Ty) (hf : ∀ t, first = some t → t.good) (w : World) (hc0 : w.cell? ⟨b, 0, none⟩ = some (.string q.text)) (hn0 : 0 < n) (hn5 : n ≤ 5)
    (hlam : q.text.toList = [108, 97, 109] → 2 < n ∧ ∃ v1 v2, w.cell? ⟨b, 4, none⟩ = some v1 ∧ w.cell? ⟨b, 5, none⟩ = some v2 ∧ ∀ W, Kept w W → Calls Tryz.prog 71 #[.agg #[v1, v2]] W fun e w' => e = .returned (.string (txtO ty)) ∧ Below W.heap.size W w') :
    Calls Tryz.prog 70 #[.agg #[.string a, .slice (some ⟨b, 0, none⟩) n cap], .string (txtO first)] w (OwnS (bndS q.text.toList ty first) w) := by
  have hsz : (txtO first).size ≤ 400000000 := by have := txtO_size hf; omega
  have kc0 : ∀ W, Kept w W → W.cell? ⟨b, 0, none⟩ = some (.string q.text) := fun W hk => hk.cell hc0
  have k1 : Kept w (w.alloc (.cells #[.string a, .slice (some ⟨b, 0, none⟩) n cap] 43)) := (Kept.refl w).alloc (Nat.le_refl _) _
  have c1 := kc0 _ k1
  obtain ⟨h, hh⟩ : ∃ h, q.text = h := ⟨_, rfl⟩
  rw [hh] at c1 kc0 hlam ⊢
  clear hh hc0
  have P2 := hid (fun (hd : ByteArray) (hne : hd.toList ≠ []) (hi : ∀ t, first = some t → [t.headB] = hd.toList → 0 < t.kids.length) W => l3Part_any first hf hd hne 0 hi W)
  have P3 := hid (fun (hd : ByteArray) (hne : hd.toList ≠ []) (hi : ∀ t, first = some t → [t.headB] = hd.toList → 1 < t.kids.length) W => l3Part_any first hf hd hne 1 hi W)
  by_cases d0 : h.toList = [116, 111]
  · skip
    have e0 : (h.toList == [116, 111]) = true := by simpa using d0
    have HB := hid (show bndS h.toList ty first = [txtO (partO first [102] 0)] by unfold bndS; rw [if_pos d0])
    have HC := hid (fun W => P2.out { data := #[102] } (by rw [Go.ByteArray.toList_eq]; simp) (fun t _ ht => by rw [Go.ByteArray.toList_eq] at ht; cases t <;> simp [Ty.headB, Ty.kids] at ht ⊢) W)
    rw [show ({ data := #[102] } : ByteArray).toList = [102] by rw [Go.ByteArray.toList_eq]] at HC
    rw [HB.out]
    generalize txtO (partO first [102] 0) = r at HC
    generalize txtO first = s at HC
    clear P2 P3 hlam hf
    go_enter Tryz.func70, Tryz.ntmps70
    go_wp2_with (go_at_call 101; refine (HC.out _).mono ?_; rintro e w1 ⟨rfl, hb1⟩)
    go_ret
    exact ownS_built [r] (by simp) (((Below.refl w.heap.size w).alloc (Nat.le_refl _) _).trans (hb1.mono (by simp))) _ _ rfl rfl
  by_cases d1 : h.toList = [108, 97, 109]
  · skip
    have e0 : (h.toList == [116, 111]) = false := by simpa using d0
    have e1 : (h.toList == [108, 97, 109]) = true := by simpa using d1
    have HB := hid (show bndS h.toList ty first = [txtO ty] by unfold bndS; rw [if_neg d0, if_neg (by rw [d1]; decide), if_pos d1])
    obtain ⟨h2n, v1, v2, y1, y2, hL⟩ := hlam d1
    have z1 := k1.cell y1
    have z2 := k1.cell y2
    have HC := hid (hL _ k1)
    rw [HB.out]
    generalize txtO ty = r at HC
    generalize txtO first = s at P2 P3
    clear P2 P3 hlam hf hL y1 y2
    go_enter Tryz.func70, Tryz.ntmps70
    go_wp2_with (go_at_call 71; refine HC.out.mono ?_; rintro e w1 ⟨rfl, hb1⟩)
    go_ret
    exact ownS_built [r] (by simp) (((Below.refl w.heap.size w).alloc (Nat.le_refl _) _).trans (hb1.mono (by simp))) _ _ rfl rfl
  by_cases d2 : h.toList = [115, 112, 108, 105, 116]
  · skip
    have e0 : (h.toList == [116, 111]) = false := by simpa using d0
    have e1 : (h.toList == [108, 97, 109]) = false := by simpa using d1
    have e2 : (h.toList == [115, 112, 108, 105, 116]) = true := by simpa using d2
    have HB := hid (show bndS h.toList ty first = [txtO (partO first [42] 0), txtO (partO first [42] 1)] by unfold bndS; rw [if_neg d0, if_pos d2])
    have HC := hid (fun W => P2.out { data := #[42] } (by rw [Go.ByteArray.toList_eq]; simp) (fun t _ ht => by rw [Go.ByteArray.toList_eq] at ht; cases t <;> simp [Ty.headB, Ty.kids] at ht ⊢) W)
    have HD := hid (fun W => P3.out { data := #[42] } (by rw [Go.ByteArray.toList_eq]; simp) (fun t _ ht => by rw [Go.ByteArray.toList_eq] at ht; cases t <;> simp [Ty.headB, Ty.kids] at ht ⊢) W)
    rw [show ({ data := #[42] } : ByteArray).toList = [42] by rw [Go.ByteArray.toList_eq]] at HC HD
    rw [HB.out]
    generalize txtO (partO first [42] 0) = r at HC
    generalize txtO (partO first [42] 1) = r2 at HD
    generalize txtO first = s at HC HD
    clear P2 P3 hlam hf
    go_enter Tryz.func70, Tryz.ntmps70
    go_wp2_with (first | (go_at_call 101; have _ := hb1; refine (HD.out _).mono ?_; rintro e w2 ⟨rfl, hb2⟩) | (go_at_call 101; refine (HC.out _).mono ?_; rintro e w1 ⟨rfl, hb1⟩))
    go_ret
    exact ownS_built [r, r2] (by simp) (((Below.refl w.heap.size w).alloc (Nat.le_refl _) _).trans ((hb1.trans (hb2.mono hb1.size)).mono (by simp))) _ _ rfl rfl
  by_cases d3 : h.toList = [103, 101, 116]
  · skip
    have e0 : (h.toList == [116, 111]) = false := by simpa using d0
    have e1 : (h.toList == [108, 97, 109]) = false := by simpa using d1
    have e2 : (h.toList == [115, 112, 108, 105, 116]) = false := by simpa using d2
    have e3 : (h.toList == [103, 101, 116]) = true := by simpa using d3
    have HB := hid (show bndS h.toList ty first = [Ty.bit.text] by unfold bndS; rw [if_neg d0, if_neg d2, if_neg d1, if_pos d3])
    rw [HB.out]
    generalize txtO first = s at P2 P3
    clear P2 P3 hlam hf
    go_enter Tryz.func70, Tryz.ntmps70
    go_wp2_with fail
    go_ret
    exact ownS_built [Ty.bit.text] (by simp) ((Below.refl w.heap.size w).alloc (Nat.le_refl _) _) _ _ (by rw [World.size_alloc]; rfl) rfl
  have e0 : (h.toList == [116, 111]) = false := by simpa using d0
  have e1 : (h.toList == [108, 97, 109]) = false := by simpa using d1
  have e2 : (h.toList == [115, 112, 108, 105, 116]) = false := by simpa using d2
  have e3 : (h.toList == [103, 101, 116]) = false := by simpa using d3
  have HB := hid (show bndS h.toList ty first = [] by unfold bndS; rw [if_neg d0, if_neg d2, if_neg d1, if_neg d3])
  rw [HB.out]
  generalize txtO first = s at P2 P3
  clear P2 P3 hlam hf
  go_enter Tryz.func70, Tryz.ntmps70
  go_wp2_with fail
  go_ret
  exact ownS_built [] (by simp) ((Below.refl w.heap.size w).alloc (Nat.le_refl _) _) _ _ (by rw [World.size_alloc]; rfl) rfl
end Go.Proofs.YtfogjomebcponaaGreatDoor
