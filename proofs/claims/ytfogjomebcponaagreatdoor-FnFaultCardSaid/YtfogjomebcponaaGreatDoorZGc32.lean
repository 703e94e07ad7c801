/- Merged: ZG46, ZGSExtN, ZGSSizeXJ. -/
import Derived.Test.YtfogjomebcponaaGreatDoorZG37
import Derived.Test.YtfogjomebcponaaGreatDoorZG27
import Derived.Test.YtfogjomebcponaaGreatDoorZGc19
import Derived.Test.YtfogjomebcponaaGreatDoorZGc25
namespace Go.Proofs.YtfogjomebcponaaGreatDoor
open Go.RowKit
set_option maxRecDepth 100000
set_option maxHeartbeats 4000000
def partO (o : Option Ty) (h : List UInt8) (i : Nat) : Option Ty := match o with
 | some t => if [t.headB] = h then t.kids[i]? else none
 | none => none
theorem readTy_txtO {o : Option Ty} (hg : ∀ t, o = some t → t.good) : readTy (txtO o) = o := by
 cases o with
 | none =>
  rw [txtO]
  decide
 | some t => rw [txtO]; exact readTy_good_text (hg t rfl)
theorem txo {o : Option Ty} (hg : ∀ t, o = some t → t.good) : (txtO o).size ≤ 60 := by
 cases o with
 | none => rw [txtO]; decide
 | some t =>
  rw [txtO, size_toList, tyt]
  have := tyw t
  have := (hg t rfl).2
  omega
theorem lpr (o : Option Ty) (hg : ∀ t, o = some t → t.good) (hd : ByteArray) (hne : hd.toList ≠ []) (i : Nat) (hi : ∀ t, o = some t → [t.headB] = hd.toList → i < t.kids.length) (w : World) :
    Calls Tryz.prog 101 #[.string (txtO o), .string hd, .int .i64 (i : Int)] w fun e w' => e = .returned (.string (txtO (partO o hd.toList i))) ∧ Below w.heap.size w w' := by
 have hsz : (txtO o).size ≤ 400000000 := by have := txo hg; omega
 have HH := hid (fun W => spe (txtO o) hsz W)
 have HK := hid (fun W => spc (txtO o) hsz W)
 rw [readTy_txtO hg] at HH HK
 cases o with
 | none =>
  have hq : ((headOf none).toList == hd.toList) = false := by
   rw [beq_eq_false_iff_ne, headOf]; exact fun h => hne (by rw [← h, Go.ByteArray.toList_eq]; rfl)
  have hq2 : (!(headOf none).toList == hd.toList) = true := by rw [hq]; rfl
  generalize headOf none = r at HH hq hq2
  generalize txtO none = s at HH HK
  go_enter Tryz.func101, Tryz.ntmps101
  go_wp2_with (go_at_call 103; refine (HH.out _).mono ?_; rintro e w1 ⟨rfl, hb1⟩)
  go_ret
  exact ⟨rfl, hb1⟩
 | some t =>
  have hh : (headOf (some t)).toList = [t.headB] := by rw [headOf, Go.ByteArray.toList_eq]
  by_cases hq0 : [t.headB] = hd.toList
  ·have hq : ((headOf (some t)).toList == hd.toList) = true := by rw [hh, hq0]; simp
   have hq2 : (!(headOf (some t)).toList == hd.toList) = false := by rw [hq]; rfl
   have hik := hi t rfl hq0
   obtain ⟨k, hk⟩ : ∃ k, t.kids[i]? = some k := ⟨_, List.getElem?_eq_getElem hik⟩
   have HP := hid (show txtO (partO (some t) hd.toList i) = k.text by rw [partO]; rw [if_pos hq0, hk]; rfl)
   have hlen : t.kids.length ≤ 2 := by cases t <;> simp [Ty.kids]
   have HKK := hid (show ((kidsO (some t)).map fun t => Value.string t.text)[i]? = some (.string k.text) by rw [kidsO, List.getElem?_map, hk]; rfl)
   have hkl : (kidsO (some t)).length = t.kids.length := rfl
   obtain ⟨n, hn⟩ : ∃ n, (kidsO (some t)).length = n := ⟨_, rfl⟩
   have hin : i < n := by omega
   have hn2 : n ≤ 2 := by omega
   have HN := hid hn
   have HK2 := hid (fun W => (HK.out W).mono fun e w' (h : KidsPost (some t) W e w') => (show ∃ g c, e = .returned (.tuple #[.slice (some ⟨g, 0, none⟩) n c, .bool true]) ∧ w'.cell? ⟨g, 0 + i, none⟩ = some (.string k.text) ∧ Below W.heap.size W w' from by
    obtain ⟨⟨q, c, he, hown⟩, hb⟩ := h
    obtain ⟨g, rfl, _, _, _, hc⟩ := own_slice hown (by rw [HN.out]; omega)
    exact ⟨g, c, by rw [he, HN.out]; rfl, hc i _ HKK.out, hb⟩))
   rw [HP.out]
   generalize headOf (some t) = r at HH hq hq2
   generalize txtO (some t) = s at HH HK2
   clear HK hk hkl hn hi hik hh hq0 hg hsz
   go_enter Tryz.func101, Tryz.ntmps101
   go_wp2_with (first
    | (go_at_call 117; have _ := hb1; refine (HK2.out _).mono ?_; rintro e w2 ⟨g, c, rfl, hc, hb2⟩; rw [Nat.zero_add] at hc)
    | (go_at_call 103; refine (HH.out _).mono ?_; rintro e w1 ⟨rfl, hb1⟩))
   go_ret
   exact ⟨rfl, hb1.trans (hb2.mono hb1.size)⟩
  ·have hq : ((headOf (some t)).toList == hd.toList) = false := by rw [hh, beq_eq_false_iff_ne]; exact hq0
   have hq2 : (!(headOf (some t)).toList == hd.toList) = true := by rw [hq]; rfl
   have HP := hid (show txtO (partO (some t) hd.toList i) = ByteArray.empty by rw [partO]; rw [if_neg hq0]; rfl)
   rw [HP.out]
   generalize headOf (some t) = r at HH hq hq2
   generalize txtO (some t) = s at HH HK
   go_enter Tryz.func101, Tryz.ntmps101
   go_wp2_with (go_at_call 103; refine (HH.out _).mono ?_; rintro e w1 ⟨rfl, hb1⟩)
   go_ret
   exact ⟨rfl, hb1⟩
theorem bytes_eq {a b : ByteArray} (h : a.toList = b.toList) : a = b := by rw [byt h, ← byt (a := b) rfl]
def spT : List ByteArray → List UInt8
 | [] => []
 | x :: xs => 32 :: (x.toList ++ spT xs)
theorem spT_take {l : List ByteArray} {i : Nat} {x : ByteArray} (h : l[i]? = some x) : spT (l.take (i + 1)) = spT (l.take i) ++ 32 :: x.toList := by
 have := dro h
 induction l generalizing i with
 | nil => simp at h
 | cons y l ih =>
  cases i with
  | zero => simp at h; subst h; simp [spT]
  | succ i =>
   simp only [List.take_succ_cons, spT]
   rw [ih (by simpa using h) (dro (by simpa using h))]
   simp
theorem l3Make_any (hd : ByteArray) (hds : hd.size ≤ 10) (ps : List ByteArray) (hps : ∀ x ∈ ps, x.size ≤ 1000) (T : Ty) (hw : T.wf = true) (ha : T.atoms ≤ 100) (hT : T.write = 40 :: (hd.toList ++ spT ps ++ [41]))
    (p : Option Addr) (n c : Nat) (w : World) (hn : ps.length = n) (hn3 : n ≤ 3) (hp : Vals w p (ps.map Value.string)) :
    Calls Tryz.prog 100 #[.string hd, .slice p n c] w fun e w' => e = .returned (.string (txtO (limT (some T)))) ∧ Below w.heap.size w w' := by
 have hrd := readTy_text hw ha
 have hTs : T.text.size ≤ 400000000 := by rw [size_toList, tyt]; have := tyw T; omega
 have HC := hid (fun W => specTypeKind_any T.text hTs W)
 rw [hrd] at HC
 have HT := hid (show T.text.toList = 40 :: (hd.toList ++ spT ps ++ [41]) by rw [tyt]; exact hT)
 have HN := hid hn
 have HP := hid hp
 have HPS := hid hps
 obtain ⟨K, hK⟩ : ∃ K, kindOf (limT (some T)) = K := ⟨_, rfl⟩
 rw [hK] at HC
 obtain ⟨R, hR⟩ : ∃ R, txtO (limT (some T)) = R := ⟨_, rfl⟩
 rw [hR]
 have hKR : K.toList.isEmpty = true ∧ R = ByteArray.empty ∨ K.toList.isEmpty = false ∧ R = T.text := by
  subst hK; subst hR
  by_cases h12 : T.atoms ≤ 12
  ·right
   rw [limT, if_pos h12]
   refine ⟨?_, rfl⟩
   exact kindS_some T
  ·left
   rw [limT, if_neg h12]
   exact ⟨by rw [kindOf, Go.ByteArray.toList_eq]; rfl, rfl⟩
 have HKR := hid hKR
 clear hK hR hKR hn hp hps hT hTs hrd
 go_enter Tryz.func100, Tryz.ntmps100
 go_wp2_with fail
 go_loop [5, 6] (fun v u => ∃ (j : Nat) (o : ByteArray), j ≤ n ∧ u = .int .i64 (j : Int) ∧ v = .string o ∧ o.size ≤ 20 + j * 1001 ∧ Hid (o.toList = 40 :: (hd.toList ++ spT (ps.take j)))) (fun _ u => n - (intOf u).toNat)
 case atStart => exact ⟨0, _, Nat.zero_le _, rfl, rfl, by rw [ByteArray.size_append]; have : ({ data := #[40] } : ByteArray).size = 1 := rfl; omega, hid (by rw [app, Go.ByteArray.toList_eq]; simp [spT])⟩
 case round =>
  obtain ⟨j, o, hj, rfl, rfl, ho, hol⟩ := hrel
  by_cases hlt : j < n
  ·obtain ⟨x, hx⟩ : ∃ x, ps[j]? = some x := ⟨_, List.getElem?_eq_getElem (by rw [HN.out]; exact hlt)⟩
   obtain ⟨b, o2, rfl, hc⟩ := HP.out j (.string x) (by simp [hx])
   have hxs := HPS.out x (List.mem_of_getElem? hx)
   have HNX := hid (show ((o ++ ({ data := #[32] } : ByteArray)) ++ x).toList = 40 :: (hd.toList ++ spT (ps.take (j + 1))) by rw [app, app, hol.out, space_toList, spT_take hx]; simp)
   have HNS := hid (show ((o ++ ({ data := #[32] } : ByteArray)) ++ x).size ≤ 20 + (j + 1) * 1001 by rw [ByteArray.size_append, ByteArray.size_append]; have : ({ data := #[32] } : ByteArray).size = 1 := rfl; omega)
   clear hx
   go_wp2_with fail
   go_round
   case rel => exact ⟨j + 1, _, by omega, by go_num, rfl, HNS.out, HNX⟩
   case measure => simp [intOf]; omega
  ·have hjn : j = n := by omega
   have HE := hid (show o ++ ({ data := #[41] } : ByteArray) = T.text from bytes_eq (by rw [app, hol.out, HT.out, hjn, ← HN.out, List.take_length]; simp [Go.ByteArray.toList_eq]))
   clear hjn
   rcases HKR.out with ⟨hk, hR⟩ | ⟨hk, hR⟩
   ·have HR := hid hR
    clear hR
    go_wp2_with (go_at_call 58; rw [HE.out]; refine (HC.out _).mono ?_; rintro e w1 ⟨rfl, hb1⟩)
    go_ret
    exact ⟨rer HR.out.symm, hb1⟩
   ·have HR := hid hR
    clear hR
    go_wp2_with (go_at_call 58; rw [HE.out]; refine (HC.out _).mono ?_; rintro e w1 ⟨rfl, hb1⟩)
    go_ret
    exact ⟨rer HR.out.symm, hb1⟩
def bndS (h : List UInt8) (ty first : Option Ty) : List ByteArray :=
 if h = [116, 111] then [txtO (partO first [102] 0)]
 else if h = [115, 112, 108, 105, 116] then [txtO (partO first [42] 0), txtO (partO first [42] 1)]
 else if h = [108, 97, 109] then [txtO ty]
 else if h = [103, 101, 116] then [Ty.bit.text]
 else []
theorem hasB_nil (l : List ByteArray) : hasB l [] = true ↔ ∃ x ∈ l, x.toList = [] := by
 unfold hasB
 rw [List.contains_iff_mem, List.mem_map]
theorem bndS_some {h : List UInt8} {ty first : Option Ty} {ts : List Ty} (hb : bndT h ty first = some ts) : bndS h ty first = ts.map Ty.text ∧ hasB (bndS h ty first) [] = false := by
 have key : bndS h ty first = ts.map Ty.text := by
  unfold bndT at hb
  unfold bndS
  split at hb
  ·rename_i c; rw [if_pos c]
   split at hb
   ·simp at hb; subst hb; rfl
   ·simp at hb
  ·rename_i c; rw [if_neg c]
   split at hb
   ·rename_i c; rw [if_pos c]
    split at hb
    ·simp at hb; subst hb; rfl
    ·simp at hb
   ·rename_i c; rw [if_neg c]
    split at hb
    ·rename_i c; rw [if_pos c]
     cases ty with
     | none => simp at hb
     | some t => simp at hb; subst hb; rfl
    ·rename_i c; rw [if_neg c]
     split at hb
     ·rename_i c; rw [if_pos c]; simp at hb; subst hb; rfl
     ·rename_i c; rw [if_neg c]; simp at hb; subst hb; rfl
 refine ⟨key, ?_⟩
 rw [key]
 cases hq : hasB (ts.map Ty.text) [] with
 | false => rfl
 | true =>
  obtain ⟨x, hx, hn⟩ := (hasB_nil _).1 hq
  obtain ⟨t, _, rfl⟩ := List.mem_map.1 hx
  have := (txtO_nil (some t)).1 hn
  simp at this
theorem bndS_none {h : List UInt8} {ty first : Option Ty} (hb : bndT h ty first = none) : hasB (bndS h ty first) [] = true := by
 have e0 : (txtO none).toList = [] := (txtO_nil none).2 rfl
 have one : ∀ {x : ByteArray} {l : List ByteArray}, x.toList = [] → hasB (x :: l) [] = true := fun h => (hasB_nil _).2 ⟨_, List.mem_cons_self .., h⟩
 unfold bndT at hb
 unfold bndS
 split at hb
 ·rename_i c; rw [if_pos c]
  have : partO first [102] 0 = none := by
   cases first with
   | none => rfl
   | some t => cases t <;> first | rfl | simp at hb
  rw [this]; exact one e0
 ·rename_i c; rw [if_neg c]
  split at hb
  ·rename_i c; rw [if_pos c]
   have : partO first [42] 0 = none := by
    cases first with
    | none => rfl
    | some t => cases t <;> first | rfl | simp at hb
   rw [this]; exact one e0
  ·rename_i c; rw [if_neg c]
   split at hb
   ·rename_i c; rw [if_pos c]
    cases ty with
    | none => exact one e0
    | some t => simp at hb
   ·rename_i c; rw [if_neg c]
    split at hb
    ·simp at hb
    ·simp at hb
theorem ownS_built (xs : List ByteArray) (hx : xs.length ≤ 10) {w W : World} (hb : Below w.heap.size w W) (e : Ending) (W' : World) (he : e = .returned (.slice (some ⟨W.heap.size, 0, none⟩) xs.length xs.length)) (hw : W' = W.alloc (.cells (xs.map Value.string).toArray 9)) : OwnS xs w e W' := by
 subst hw
 exact ⟨_, _, he, ⟨by simp, .inr ⟨_, _, _, rfl, hb.size, heap_alloc_new W _, Nat.le_refl _, by unfold maxLen; omega, by simp, by simpa using List.take_of_length_le (by simp)⟩⟩, hb.alloc hb.size _⟩
theorem l3Bound_any (q : Tree) (b n cap : Nat) (a : ByteArray) (ty first : Option Ty) (hf : ∀ t, first = some t → t.good) (w : World) (hc0 : w.cell? ⟨b, 0, none⟩ = some (.string q.text)) (hn0 : 0 < n) (hn5 : n ≤ 5)
    (hlam : q.text.toList = [108, 97, 109] → 2 < n ∧ ∃ v1 v2, w.cell? ⟨b, 4, none⟩ = some v1 ∧ w.cell? ⟨b, 5, none⟩ = some v2 ∧ ∀ W, Kept w W → Calls Tryz.prog 71 #[.agg #[v1, v2]] W fun e w' => e = .returned (.string (txtO ty)) ∧ Below W.heap.size W w') :
    Calls Tryz.prog 70 #[.agg #[.string a, .slice (some ⟨b, 0, none⟩) n cap], .string (txtO first)] w (OwnS (bndS q.text.toList ty first) w) := by
 have hsz : (txtO first).size ≤ 400000000 := by have := txo hf; omega
 have kc0 : ∀ W, Kept w W → W.cell? ⟨b, 0, none⟩ = some (.string q.text) := fun W hk => hk.cell hc0
 have k1 : Kept w (w.alloc (.cells #[.string a, .slice (some ⟨b, 0, none⟩) n cap] 43)) := (Kept.refl w).alloc (Nat.le_refl _) _
 have c1 := kc0 _ k1
 obtain ⟨h, hh⟩ : ∃ h, q.text = h := ⟨_, rfl⟩
 rw [hh] at c1 kc0 hlam ⊢
 clear hh hc0
 have P2 := hid (fun (hd : ByteArray) (hne : hd.toList ≠ []) (hi : ∀ t, first = some t → [t.headB] = hd.toList → 0 < t.kids.length) W => lpr first hf hd hne 0 hi W)
 have P3 := hid (fun (hd : ByteArray) (hne : hd.toList ≠ []) (hi : ∀ t, first = some t → [t.headB] = hd.toList → 1 < t.kids.length) W => lpr first hf hd hne 1 hi W)
 by_cases d0 : h.toList = [116, 111]
 ·skip
  have e0 : (h.toList == [116, 111]) = true := by simpa using d0
  have HB := hid (show bndS h.toList ty first = [txtO (partO first [102] 0)] by unfold bndS; rw [if_pos d0])
  have HC := hid (fun W => P2.out { data := #[102] } (by rw [Go.ByteArray.toList_eq]; simp) (fun t _ ht => by rw [Go.ByteArray.toList_eq] at ht; cases t <;> simp [Ty.headB, Ty.kids] at ht ⊢) W)
  rw [show ({ data := #[102] } : ByteArray).toList = [102] by rw [Go.ByteArray.toList_eq]] at HC
  rw [HB.out]
  generalize txtO (partO first [102] 0) = r at HC
  generalize txtO first = s at HC
  clear P2 P3 hlam hf
  go_enter Tryz.func70, Tryz.ntmps70
  go_wp2_with (go_at_call 101; refine (HC.out _).mono ?_; rintro e w1 ⟨rfl, hb1⟩)
  go_ret
  exact ownS_built [r] (by simp) (((Below.refl w.heap.size w).alloc (Nat.le_refl _) _).trans (hb1.mono (by simp))) _ _ rfl rfl
 by_cases d1 : h.toList = [108, 97, 109]
 ·skip
  have e0 : (h.toList == [116, 111]) = false := by simpa using d0
  have e1 : (h.toList == [108, 97, 109]) = true := by simpa using d1
  have HB := hid (show bndS h.toList ty first = [txtO ty] by unfold bndS; rw [if_neg d0, if_neg (by rw [d1]; decide), if_pos d1])
  obtain ⟨h2n, v1, v2, y1, y2, hL⟩ := hlam d1
  have z1 := k1.cell y1
  have z2 := k1.cell y2
  have HC := hid (hL _ k1)
  rw [HB.out]
  generalize txtO ty = r at HC
  generalize txtO first = s at P2 P3
  clear P2 P3 hlam hf hL y1 y2
  go_enter Tryz.func70, Tryz.ntmps70
  go_wp2_with (go_at_call 71; refine HC.out.mono ?_; rintro e w1 ⟨rfl, hb1⟩)
  go_ret
  exact ownS_built [r] (by simp) (((Below.refl w.heap.size w).alloc (Nat.le_refl _) _).trans (hb1.mono (by simp))) _ _ rfl rfl
 by_cases d2 : h.toList = [115, 112, 108, 105, 116]
 ·skip
  have e0 : (h.toList == [116, 111]) = false := by simpa using d0
  have e1 : (h.toList == [108, 97, 109]) = false := by simpa using d1
  have e2 : (h.toList == [115, 112, 108, 105, 116]) = true := by simpa using d2
  have HB := hid (show bndS h.toList ty first = [txtO (partO first [42] 0), txtO (partO first [42] 1)] by unfold bndS; rw [if_neg d0, if_pos d2])
  have HC := hid (fun W => P2.out { data := #[42] } (by rw [Go.ByteArray.toList_eq]; simp) (fun t _ ht => by rw [Go.ByteArray.toList_eq] at ht; cases t <;> simp [Ty.headB, Ty.kids] at ht ⊢) W)
  have HD := hid (fun W => P3.out { data := #[42] } (by rw [Go.ByteArray.toList_eq]; simp) (fun t _ ht => by rw [Go.ByteArray.toList_eq] at ht; cases t <;> simp [Ty.headB, Ty.kids] at ht ⊢) W)
  rw [show ({ data := #[42] } : ByteArray).toList = [42] by rw [Go.ByteArray.toList_eq]] at HC HD
  rw [HB.out]
  generalize txtO (partO first [42] 0) = r at HC
  generalize txtO (partO first [42] 1) = r2 at HD
  generalize txtO first = s at HC HD
  clear P2 P3 hlam hf
  go_enter Tryz.func70, Tryz.ntmps70
  go_wp2_with (first | (go_at_call 101; have _ := hb1; refine (HD.out _).mono ?_; rintro e w2 ⟨rfl, hb2⟩) | (go_at_call 101; refine (HC.out _).mono ?_; rintro e w1 ⟨rfl, hb1⟩))
  go_ret
  exact ownS_built [r, r2] (by simp) (((Below.refl w.heap.size w).alloc (Nat.le_refl _) _).trans ((hb1.trans (hb2.mono hb1.size)).mono (by simp))) _ _ rfl rfl
 by_cases d3 : h.toList = [103, 101, 116]
 ·skip
  have e0 : (h.toList == [116, 111]) = false := by simpa using d0
  have e1 : (h.toList == [108, 97, 109]) = false := by simpa using d1
  have e2 : (h.toList == [115, 112, 108, 105, 116]) = false := by simpa using d2
  have e3 : (h.toList == [103, 101, 116]) = true := by simpa using d3
  have HB := hid (show bndS h.toList ty first = [Ty.bit.text] by unfold bndS; rw [if_neg d0, if_neg d2, if_neg d1, if_pos d3])
  rw [HB.out]
  generalize txtO first = s at P2 P3
  clear P2 P3 hlam hf
  go_enter Tryz.func70, Tryz.ntmps70
  go_wp2_with fail
  go_ret
  exact ownS_built [Ty.bit.text] (by simp) ((Below.refl w.heap.size w).alloc (Nat.le_refl _) _) _ _ (by rw [World.size_alloc]; rfl) rfl
 have e0 : (h.toList == [116, 111]) = false := by simpa using d0
 have e1 : (h.toList == [108, 97, 109]) = false := by simpa using d1
 have e2 : (h.toList == [115, 112, 108, 105, 116]) = false := by simpa using d2
 have e3 : (h.toList == [103, 101, 116]) = false := by simpa using d3
 have HB := hid (show bndS h.toList ty first = [] by unfold bndS; rw [if_neg d0, if_neg d2, if_neg d1, if_neg d3])
 rw [HB.out]
 generalize txtO first = s at P2 P3
 clear P2 P3 hlam hf
 go_enter Tryz.func70, Tryz.ntmps70
 go_wp2_with fail
 go_ret
 exact ownS_built [] (by simp) ((Below.refl w.heap.size w).alloc (Nat.le_refl _) _) _ _ (by rw [World.size_alloc]; rfl) rfl
theorem exT_le (ty : Option Ty) (e : Ex) : e.a ≤ (exT ty e).a ∧ e.b ≤ (exT ty e).b ∧ e.n ≤ (exT ty e).n := by
 cases ty with
 | none => exact ⟨Nat.le_refl _, Nat.le_refl _, Nat.le_refl _⟩
 | some t => exact ⟨by show e.a ≤ e.a + _; omega, by show e.b ≤ e.b + 1 + _; omega, by show e.n ≤ max e.n _; omega⟩
theorem wis_len2 (l : List Ex) : ∀ e : Ex, l.length + e.b ≤ (wis e l).b := by
 induction l with
 | nil => intro e; show 0 + e.b ≤ e.b; omega
 | cons q l ih =>
  intro e
  have h1 := ih (e.wi q)
  have e2 : (e.wi q).b = e.b + 1 + q.b := rfl
  show l.length + 1 + e.b ≤ (wis (e.wi q) l).b
  omega
theorem wis_len (e : Ex) (l : List Ex) : l.length ≤ (wis e l).b := by have := wis_len2 l e; omega
theorem kept_bx {w0 w w' : World} {b : Nat} (h : Kept w0 w) (hx : Bxe b w w') (hw : w0.heap.size ≤ w.heap.size) (hb : w0.heap.size ≤ b) : Kept w0 w' := fun k hk => (hx.block k (by omega) (by omega)).trans (h k hk)
theorem extent_any {w0 : World} {S : Nat → Prop} {m : Tm} {b : Nat} (hn : NIn w0 S m b) : m.ex.ok → ∀ w, Kept w0 w → w0.heap.size ≤ w.heap.size →
    Calls Tryz.prog 43 #[.pointer (some ⟨b, 0, none⟩)] w fun e w' => e = .returned (exV m.ex) ∧ Below w.heap.size w w' := by
 induction hn with
 | mk hd a d bs ty ks b bp bl bc kp kl kc A hS hb hbl hkl hbn hbv hkv hks ih =>
  intro hok w hk hw
  have hlt0 := lt_of_block hb
  have hke : Kept w0 (w.alloc (.cells #[.int .i64 0, .int .i64 0, .int .i64 0] 72)) := hk.alloc hw _
  have c := ces ((hke b hlt0).trans hb)
  have c0 := c.1
  have c1 := c.2.1
  have c3 := c.2.2.2.1
  have c4 := c.2.2.2.2.1
  have c5 := c.2.2.2.2.2.1
  have HLT := hid (show b < w.heap.size by omega)
  have HKL := hid hkl
  have HBL := hid hbl
  have HKV := hid hkv
  have HBV := hid hbv
  have HIH := hid ih
  have HK := hid hk
  have HE0 := hid (show ExB (w.alloc (.cells #[.int .i64 0, .int .i64 0, .int .i64 0] 72)) w.heap.size ⟨0, 0, 0⟩ from hea w _ _ rfl)
  have hz00 : (w.alloc (.cells #[.int .i64 0, .int .i64 0, .int .i64 0] 72)).heap.size = w.heap.size + 1 := by simp
  have HB0 := hid (show Below w.heap.size w (w.alloc (.cells #[.int .i64 0, .int .i64 0, .int .i64 0] 72)) from (Below.refl _ _).alloc (Nat.le_refl _) _)
  have HKE := hid hke
  have HBLK := hid hb
  clear ih hk hb hbn hbv hS hbl hkl hks hkv c hke
  by_cases ha : a.toList = []
  ·have HX := hid (show (Tm.mk hd a d bs ty ks).ex = Tm.exs ks (exT ty (exB bs (Ex.head hd.size))) by rw [Tm.ex, if_pos ha])
   rw [HX.out] at hok ⊢
   have hae : a.toList.isEmpty = true := by rw [ha]; rfl
   clear ha
   have hok3 : (exT ty (exB bs (Ex.head hd.size))).ok := by
    rw [tme] at hok
    exact exOk_le hok (wis_le _ _).1 (wis_le _ _).2.1 (wis_le _ _).2.2
   have hok2 : (exB bs (Ex.head hd.size)).ok := exOk_le hok3 (exT_le _ _).1 (exT_le _ _).2.1 (exT_le _ _).2.2
   have hok1 : (Ex.head hd.size).ok := exOk_le hok2 (wis_le _ _).1 (wis_le _ _).2.1 (wis_le _ _).2.2
   have hhz : hd.size ≤ 40000000000 := by have h : 2 + hd.size ≤ 40000000000 := hok1.2.1; omega
   have HO4 := hid hok
   have HO3 := hid hok3
   have HO2 := hid hok2
   have HEH := hid (fun W => (show Calls Tryz.prog 80 #[.string hd] W fun e w' => e = .returned (.agg #[.int .i64 1, .int .i64 (2 + (hd.size : Int)), .int .i64 1]) ∧ Below W.heap.size W w' from exHead_any hd hhz W))
   have hbl9 : bl ≤ 40000000000 := by
    have h := wis_len (Ex.head hd.size) (bs.map fun s => Ex.atom s.size)
    rw [List.length_map, HBL.out] at h
    exact Nat.le_trans h hok2.2.1
   have hkl9 : kl ≤ 40000000000 := by
    rw [tme] at hok
    have h := wis_len (exT ty (exB bs (Ex.head hd.size))) (ks.map Tm.ex)
    rw [List.length_map, HKL.out] at h
    exact Nat.le_trans h hok.2.1
   have HOK4 := hid (show (wis (exT ty (exB bs (Ex.head hd.size))) (ks.map Tm.ex)).ok from by rw [← tme]; exact hok)
   have HFIN := hid (tme ks (exT ty (exB bs (Ex.head hd.size))))
   clear hok hok1 hok2 hok3
   cases ty with
   | none =>
    simp only [tyV] at c4
    go_enter Tryz.func43, Tryz.ntmps43
    go_wp2_with fail
    go_at_call 80
    refine (HEH.out _).mono ?_
    rintro e w3 ⟨rfl, hb3⟩
    have hz3 := hb3.size
    have HE3 := hid (exk HE0.out hb3 (by omega))
    have HB3 := hid (HB0.out.trans (hb3.mono (by omega)))
    have HK3 := hid (HKE.out.below hb3 (by omega))
    have HE4 := hid (show ExB (w3.alloc (.cells #[.int .i64 1, .int .i64 (2 + (hd.size : Int)), .int .i64 1] 72)) w3.heap.size (Ex.head hd.size) from hea w3 _ _ rfl)
    have HX4 := hid (Bxe.of_below (b := w3.heap.size) ((Below.refl w3.heap.size w3).alloc (Nat.le_refl _) (.cells #[.int .i64 1, .int .i64 (2 + (hd.size : Int)), .int .i64 1] 72)) (Nat.le_refl _))
    have k4 := kept_bx HK3.out HX4.out (by omega) (by omega)
    have c := (ces ((k4 b hlt0).trans HBLK.out))
    have d3 := c.2.2.2.1
    have d4 := c.2.2.2.2.1
    have d5 := c.2.2.2.2.2.1
    simp only [tyV] at d4
    clear hb3 c k4 c0 c1 c3 c4 c5
    go_wp2_with fail
    go_loopw [28] (fun u wr => ∃ i : Nat, i ≤ bl ∧ u = .int .i64 (i : Int) ∧ Hid (ExB wr w3.heap.size (wis (Ex.head hd.size) ((bs.map fun s => Ex.atom s.size).take i))) ∧ Hid (Bxe w3.heap.size w3 wr)) (fun u _ => bl - (intOf u).toNat)
    case atStart => exact ⟨0, Nat.zero_le _, rfl, HE4, HX4⟩
    case round =>
     obtain ⟨i, hi, rfl, hE, hX⟩ := hrel
     have hz := hX.out.size
     have hkw := kept_bx HK3.out hX.out (by omega) (by omega)
     by_cases hlt : i < bl
     ·have d1 : (i : Int) < (bl : Int) := by omega
      obtain ⟨x, hx⟩ : ∃ x, bs[i]? = some x := ⟨_, List.getElem?_eq_getElem (by rw [HBL.out]; exact hlt)⟩
      obtain ⟨g, rfl, _, hc⟩ := HBV.out i (.string x) (by simp [hx])
      have hcc := hkw.cell hc
      obtain ⟨TX0, hT0⟩ : ∃ T, Ex.atom x.size = T := ⟨_, rfl⟩
      have HT := hid (fun W => (show Calls Tryz.prog 79 #[.string x] W fun e w' => e = .returned (exV TX0) ∧ Below W.heap.size W w' from by rw [← hT0]; exact exAtom_any x W))
      have hti : (bs.map fun s => Ex.atom s.size)[i]? = some TX0 := by simp [hx, hT0]
      clear hx hc hT0
      have hsn := wis_snoc (Ex.head hd.size) (bs.map fun s => Ex.atom s.size) i TX0 hti
      have hok1 := exL_ok HO2.out i
      have hok2 := exP_ok HO2.out hti
      obtain ⟨E, hEE⟩ : ∃ E, wis (Ex.head hd.size) ((bs.map fun s => Ex.atom s.size).take i) = E := ⟨_, rfl⟩
      rw [hEE] at hE hsn hok1
      have HSN := hid hsn
      have HO1 := hid hok1
      have HOX := hid hok2
      obtain ⟨TX, hTX⟩ : ∃ TX, TX0 = TX := ⟨_, rfl⟩
      rw [hTX] at HT HSN HOX
      have HWI := hid (fun W => (show Calls Tryz.prog 81 #[.agg #[.int .i64 (E.a : Int), .int .i64 (E.b : Int), .int .i64 (E.n : Int)], exV TX] W fun r w' => r = .returned (.agg #[.int .i64 ((E.wi TX).a : Int), .int .i64 ((E.wi TX).b : Int), .int .i64 ((E.wi TX).n : Int)]) ∧ Below W.heap.size W w' from exWith_any E TX HO1.out HOX.out W))
      have HEd := hid (exk hE.out ((Below.refl wr.heap.size wr).drew) (lt_of_block hE.out))
      obtain ⟨⟨c0, c1, c2⟩, ⟨z0, z1, z2⟩, l0⟩ := exb hE.out
      obtain ⟨⟨e0, e1, e2⟩, _, hll⟩ := exb HEd.out
      have HLD := hid hll
      clear hti hsn hok1 hok2 hEE hTX hll hkw
      go_wp2_with fail
      go_region_with (first
          | (have _ := HE5
             go_at_call 81
             refine (HWI.out _).mono ?_
             rintro e w6 ⟨rfl, hb6⟩
             have hE6 := exk HE5.out hb6 (lt_of_block HE5.out)
             have HE6 := hid hE6
             obtain ⟨x0, x1, x2⟩ := (exb hE6).1
             obtain ⟨y0, y1, y2⟩ := (exb hE6).2.1
             have l6 := (exb hE6).2.2
             have HB6 := hid (HB5.out.trans (Bxe.of_below hb6 (Nat.le_refl _)))
             clear hb6 hE6)
          | (go_at_call 79
             refine (HT.out _).mono ?_
             rintro e w5 ⟨rfl, hb5⟩
             have HE5 := hid (exk HEd.out hb5 HLD.out)
             obtain ⟨q0, q1, q2⟩ := (exb HE5.out).1
             have HB5 := hid (show Bxe w3.heap.size wr w5 from (Bxe.of_below (Below.refl wr.heap.size wr).drew (Nat.le_refl _)).trans (Bxe.of_below hb5 (Nat.le_refl _)))
             clear hb5))
      all_goals
       go_wp2_with fail
       go_roundw
       case rel => exact ⟨i + 1, by omega, by go_num, hid (by rw [HSN.out]; exact exB_set HE6.out), hid (hX.out.trans (((HB6.out.set _).set _).set _))⟩
       case measure => simp [intOf]; omega
     ·have hin : i = bl := by omega
      subst hin
      have c := (ces ((hkw b hlt0).trans HBLK.out))
      have d3 := c.2.2.2.1
      have d4 := c.2.2.2.2.1
      have d5 := c.2.2.2.2.2.1
      simp only [tyV] at d4
      clear c hkw hlt
      have HE := hid (show (bs.map fun s => Ex.atom s.size).take i = bs.map fun s => Ex.atom s.size from List.take_of_length_le (by rw [List.length_map, HBL.out]; omega))
      rw [HE.out] at hE
      have HEA := hid (show ExB wr w3.heap.size (exT none (exB bs (Ex.head hd.size))) from hE.out)
      have HXA := hX
      obtain ⟨E3, hE3⟩ : ∃ E3, exT none (exB bs (Ex.head hd.size)) = E3 := ⟨_, rfl⟩
      have HFIN2 := hid (show Tm.exs ks (exT none (exB bs (Ex.head hd.size))) = wis E3 (ks.map Tm.ex) from by rw [← hE3]; exact HFIN.out)
      rw [hE3] at HEA HOK4
      clear hE3 hE hX hz hi HE
      go_wp2_with fail
      go_loopw [54] (fun u wr => ∃ i : Nat, i ≤ kl ∧ u = .int .i64 (i : Int) ∧ Hid (ExB wr w3.heap.size (wis E3 ((ks.map Tm.ex).take i))) ∧ Hid (Bxe w3.heap.size w3 wr)) (fun u _ => kl - (intOf u).toNat)
      case atStart => exact ⟨0, Nat.zero_le _, rfl, HEA, HXA⟩
      case round =>
       obtain ⟨i, hi, rfl, hE, hX⟩ := hrel
       have hz := hX.out.size
       have hkw := kept_bx HK3.out hX.out (by omega) (by omega)
       by_cases hlt : i < kl
       ·have d1 : (i : Int) < (kl : Int) := by omega
        obtain ⟨x, hx⟩ : ∃ x, ks[i]? = some x := ⟨_, List.getElem?_eq_getElem (by rw [HKL.out]; exact hlt)⟩
        obtain ⟨g, rfl, _, hc⟩ := HKV.out i _ (ptrs_get A hlt)
        have hcc := hkw.cell hc
        obtain ⟨TX0, hT0⟩ : ∃ T, x.ex = T := ⟨_, rfl⟩
        have hti : (ks.map Tm.ex)[i]? = some TX0 := by simp [hx, hT0]
        have hox := exP_ok HOK4.out hti
        have hkd : Kept w0 wr.drew := hkw.below ((Below.refl wr.heap.size wr).drew) (by omega)
        have HT := hid (show Calls Tryz.prog 43 #[.pointer (some ⟨A i, 0, none⟩)] wr.drew fun e w' => e = .returned (exV TX0) ∧ Below wr.drew.heap.size wr.drew w' from by rw [← hT0] at hox ⊢; exact HIH.out i x hx hox wr.drew hkd (by simp; omega))
        clear hx hc hT0 hox hkd
        have hsn := wis_snoc E3 (ks.map Tm.ex) i TX0 hti
        have hok1 := exL_ok HOK4.out i
        have hok2 := exP_ok HOK4.out hti
        obtain ⟨E, hEE⟩ : ∃ E, wis E3 ((ks.map Tm.ex).take i) = E := ⟨_, rfl⟩
        rw [hEE] at hE hsn hok1
        have HSN := hid hsn
        have HO1 := hid hok1
        have HOX := hid hok2
        obtain ⟨TX, hTX⟩ : ∃ TX, TX0 = TX := ⟨_, rfl⟩
        rw [hTX] at HT HSN HOX
        have HWI := hid (fun W => (show Calls Tryz.prog 81 #[.agg #[.int .i64 (E.a : Int), .int .i64 (E.b : Int), .int .i64 (E.n : Int)], exV TX] W fun r w' => r = .returned (.agg #[.int .i64 ((E.wi TX).a : Int), .int .i64 ((E.wi TX).b : Int), .int .i64 ((E.wi TX).n : Int)]) ∧ Below W.heap.size W w' from exWith_any E TX HO1.out HOX.out W))
        have HEd := hid (exk hE.out ((Below.refl wr.heap.size wr).drew) (lt_of_block hE.out))
        obtain ⟨⟨c0, c1, c2⟩, ⟨z0, z1, z2⟩, l0⟩ := exb hE.out
        obtain ⟨⟨e0, e1, e2⟩, _, hll⟩ := exb HEd.out
        have HLD := hid hll
        clear hti hsn hok1 hok2 hEE hTX hll hkw
        go_wp2_with fail
        go_region_with (first
            | (have _ := HE5
               go_at_call 81
               refine (HWI.out _).mono ?_
               rintro e w6 ⟨rfl, hb6⟩
               have hE6 := exk HE5.out hb6 (lt_of_block HE5.out)
               have HE6 := hid hE6
               obtain ⟨x0, x1, x2⟩ := (exb hE6).1
               obtain ⟨y0, y1, y2⟩ := (exb hE6).2.1
               have l6 := (exb hE6).2.2
               have HB6 := hid (HB5.out.trans (Bxe.of_below hb6 (Nat.le_refl _)))
               clear hb6 hE6)
            | (go_at_call 43
               refine (HT.out).mono ?_
               rintro e w5 ⟨rfl, hb5⟩
               have HE5 := hid (exk HEd.out hb5 HLD.out)
               obtain ⟨q0, q1, q2⟩ := (exb HE5.out).1
               have HB5 := hid (show Bxe w3.heap.size wr w5 from (Bxe.of_below (Below.refl wr.heap.size wr).drew (Nat.le_refl _)).trans (Bxe.of_below hb5 (Nat.le_refl _)))
               clear hb5))
        all_goals
         go_wp2_with fail
         go_roundw
         case rel => exact ⟨i + 1, by omega, by go_num, hid (by rw [HSN.out]; exact exB_set HE6.out), hid (hX.out.trans (((HB6.out.set _).set _).set _))⟩
         case measure => simp [intOf]; omega
       ·have hin : i = kl := by omega
        subst hin
        have HE := hid (show (ks.map Tm.ex).take i = ks.map Tm.ex from List.take_of_length_le (by rw [List.length_map, HKL.out]; omega))
        rw [HE.out] at hE
        obtain ⟨c0, c1, c2⟩ := (exb hE.out).1
        have hE0 : ExB wr w.heap.size ⟨0, 0, 0⟩ := (hX.out.block w.heap.size (by omega) (by omega)).trans HE3.out
        obtain ⟨⟨p0, p1, p2⟩, ⟨y0, y1, y2⟩, l0⟩ := exb hE0
        have HEZ := hid hE0
        clear hlt hE0 hkw
        go_wp2_with fail
        have hres := exB_set (u0 := .int .i64 ((wis E3 (ks.map Tm.ex)).a : Int)) (u1 := .int .i64 ((wis E3 (ks.map Tm.ex)).b : Int)) (u2 := .int .i64 ((wis E3 (ks.map Tm.ex)).n : Int)) HEZ.out
        have hr3 := exb (e := wis E3 (ks.map Tm.ex)) hres
        refine bodyPost_ret (v := .agg #[.int .i64 ((wis E3 (ks.map Tm.ex)).a : Int), .int .i64 ((wis E3 (ks.map Tm.ex)).b : Int), .int .i64 ((wis E3 (ks.map Tm.ex)).n : Int)]) (by simp [results, Tryz.results43, go_sem, hr3.1.1, hr3.1.2.1, hr3.1.2.2]) rfl ?_
        refine ⟨by rw [HFIN2.out]; rfl, HB3.out.trans ?_⟩
        have h1 : Below w.heap.size w3 wr := hX.out.to_below (by omega) (by omega)
        exact ((h1.setCell (Nat.le_refl _) _).setCell (Nat.le_refl _) _).setCell (Nat.le_refl _) _
   | some t =>
    obtain ⟨tn, tv, htv⟩ := t.val_iface
    have hokt : t.ex.ok := exOk_le HO3.out (by show t.ex.a ≤ _ + t.ex.a; omega) (by show t.ex.b ≤ _ + 1 + t.ex.b; omega) (by show t.ex.n ≤ max _ (1 + t.ex.n); omega)
    have HTA := hid (fun W => exa t hokt W)
    rw [htv] at HTA
    have HTV := hid (show tyV (some t) = .iface tn tv from htv)
    clear htv hokt
    rw [HTV.out] at c4
    go_enter Tryz.func43, Tryz.ntmps43
    go_wp2_with fail
    go_at_call 80
    refine (HEH.out _).mono ?_
    rintro e w3 ⟨rfl, hb3⟩
    have hz3 := hb3.size
    have HE3 := hid (exk HE0.out hb3 (by omega))
    have HB3 := hid (HB0.out.trans (hb3.mono (by omega)))
    have HK3 := hid (HKE.out.below hb3 (by omega))
    have HE4 := hid (show ExB (w3.alloc (.cells #[.int .i64 1, .int .i64 (2 + (hd.size : Int)), .int .i64 1] 72)) w3.heap.size (Ex.head hd.size) from hea w3 _ _ rfl)
    have HX4 := hid (Bxe.of_below (b := w3.heap.size) ((Below.refl w3.heap.size w3).alloc (Nat.le_refl _) (.cells #[.int .i64 1, .int .i64 (2 + (hd.size : Int)), .int .i64 1] 72)) (Nat.le_refl _))
    have k4 := kept_bx HK3.out HX4.out (by omega) (by omega)
    have c := (ces ((k4 b hlt0).trans HBLK.out))
    have d3 := c.2.2.2.1
    have d4 := c.2.2.2.2.1
    have d5 := c.2.2.2.2.2.1
    rw [HTV.out] at d4
    clear hb3 c k4 c0 c1 c3 c4 c5
    go_wp2_with fail
    go_loopw [28] (fun u wr => ∃ i : Nat, i ≤ bl ∧ u = .int .i64 (i : Int) ∧ Hid (ExB wr w3.heap.size (wis (Ex.head hd.size) ((bs.map fun s => Ex.atom s.size).take i))) ∧ Hid (Bxe w3.heap.size w3 wr)) (fun u _ => bl - (intOf u).toNat)
    case atStart => exact ⟨0, Nat.zero_le _, rfl, HE4, HX4⟩
    case round =>
     obtain ⟨i, hi, rfl, hE, hX⟩ := hrel
     have hz := hX.out.size
     have hkw := kept_bx HK3.out hX.out (by omega) (by omega)
     by_cases hlt : i < bl
     ·have d1 : (i : Int) < (bl : Int) := by omega
      obtain ⟨x, hx⟩ : ∃ x, bs[i]? = some x := ⟨_, List.getElem?_eq_getElem (by rw [HBL.out]; exact hlt)⟩
      obtain ⟨g, rfl, _, hc⟩ := HBV.out i (.string x) (by simp [hx])
      have hcc := hkw.cell hc
      obtain ⟨TX0, hT0⟩ : ∃ T, Ex.atom x.size = T := ⟨_, rfl⟩
      have HT := hid (fun W => (show Calls Tryz.prog 79 #[.string x] W fun e w' => e = .returned (exV TX0) ∧ Below W.heap.size W w' from by rw [← hT0]; exact exAtom_any x W))
      have hti : (bs.map fun s => Ex.atom s.size)[i]? = some TX0 := by simp [hx, hT0]
      clear hx hc hT0
      have hsn := wis_snoc (Ex.head hd.size) (bs.map fun s => Ex.atom s.size) i TX0 hti
      have hok1 := exL_ok HO2.out i
      have hok2 := exP_ok HO2.out hti
      obtain ⟨E, hEE⟩ : ∃ E, wis (Ex.head hd.size) ((bs.map fun s => Ex.atom s.size).take i) = E := ⟨_, rfl⟩
      rw [hEE] at hE hsn hok1
      have HSN := hid hsn
      have HO1 := hid hok1
      have HOX := hid hok2
      obtain ⟨TX, hTX⟩ : ∃ TX, TX0 = TX := ⟨_, rfl⟩
      rw [hTX] at HT HSN HOX
      have HWI := hid (fun W => (show Calls Tryz.prog 81 #[.agg #[.int .i64 (E.a : Int), .int .i64 (E.b : Int), .int .i64 (E.n : Int)], exV TX] W fun r w' => r = .returned (.agg #[.int .i64 ((E.wi TX).a : Int), .int .i64 ((E.wi TX).b : Int), .int .i64 ((E.wi TX).n : Int)]) ∧ Below W.heap.size W w' from exWith_any E TX HO1.out HOX.out W))
      have HEd := hid (exk hE.out ((Below.refl wr.heap.size wr).drew) (lt_of_block hE.out))
      obtain ⟨⟨c0, c1, c2⟩, ⟨z0, z1, z2⟩, l0⟩ := exb hE.out
      obtain ⟨⟨e0, e1, e2⟩, _, hll⟩ := exb HEd.out
      have HLD := hid hll
      clear hti hsn hok1 hok2 hEE hTX hll hkw
      go_wp2_with fail
      go_region_with (first
          | (have _ := HE5
             go_at_call 81
             refine (HWI.out _).mono ?_
             rintro e w6 ⟨rfl, hb6⟩
             have hE6 := exk HE5.out hb6 (lt_of_block HE5.out)
             have HE6 := hid hE6
             obtain ⟨x0, x1, x2⟩ := (exb hE6).1
             obtain ⟨y0, y1, y2⟩ := (exb hE6).2.1
             have l6 := (exb hE6).2.2
             have HB6 := hid (HB5.out.trans (Bxe.of_below hb6 (Nat.le_refl _)))
             clear hb6 hE6)
          | (go_at_call 79
             refine (HT.out _).mono ?_
             rintro e w5 ⟨rfl, hb5⟩
             have HE5 := hid (exk HEd.out hb5 HLD.out)
             obtain ⟨q0, q1, q2⟩ := (exb HE5.out).1
             have HB5 := hid (show Bxe w3.heap.size wr w5 from (Bxe.of_below (Below.refl wr.heap.size wr).drew (Nat.le_refl _)).trans (Bxe.of_below hb5 (Nat.le_refl _)))
             clear hb5))
      all_goals
       go_wp2_with fail
       go_roundw
       case rel => exact ⟨i + 1, by omega, by go_num, hid (by rw [HSN.out]; exact exB_set HE6.out), hid (hX.out.trans (((HB6.out.set _).set _).set _))⟩
       case measure => simp [intOf]; omega
     ·have hin : i = bl := by omega
      subst hin
      have c := (ces ((hkw b hlt0).trans HBLK.out))
      have d3 := c.2.2.2.1
      have d4 := c.2.2.2.2.1
      have d5 := c.2.2.2.2.2.1
      rw [HTV.out] at d4
      clear c hkw hlt
      have HE := hid (show (bs.map fun s => Ex.atom s.size).take i = bs.map fun s => Ex.atom s.size from List.take_of_length_le (by rw [List.length_map, HBL.out]; omega))
      rw [HE.out] at hE
      have hE2 : ExB wr w3.heap.size (exB bs (Ex.head hd.size)) := hE.out
      obtain ⟨E, hEE⟩ : ∃ E, exB bs (Ex.head hd.size) = E := ⟨_, rfl⟩
      have HFIN2 := hid (show Tm.exs ks (exT (some t) (exB bs (Ex.head hd.size))) = wis (E.wi t.ex) (ks.map Tm.ex) from by rw [← hEE]; exact HFIN.out)
      have HOK5 := hid (show (wis (E.wi t.ex) (ks.map Tm.ex)).ok from by rw [← hEE]; exact HOK4.out)
      have HO1 := hid (show E.ok from by rw [← hEE]; exact HO2.out)
      have HO3b := hid (show (E.wi t.ex).ok from by rw [← hEE]; exact HO3.out)
      rw [hEE] at hE2
      clear hEE hE HE HO2 HO3 HOK4 HFIN
      obtain ⟨TX, hTX⟩ : ∃ TX, t.ex = TX := ⟨_, rfl⟩
      rw [hTX] at HTA HFIN2 HOK5 HO3b
      have HOX := hid (show TX.ok from exOk_le HO3b.out (by show TX.a ≤ _ + TX.a; omega) (by show TX.b ≤ _ + 1 + TX.b; omega) (by show TX.n ≤ max _ (1 + TX.n); omega))
      have HWI := hid (fun W => (show Calls Tryz.prog 81 #[.agg #[.int .i64 (E.a : Int), .int .i64 (E.b : Int), .int .i64 (E.n : Int)], exV TX] W fun r w' => r = .returned (.agg #[.int .i64 ((E.wi TX).a : Int), .int .i64 ((E.wi TX).b : Int), .int .i64 ((E.wi TX).n : Int)]) ∧ Below W.heap.size W w' from exWith_any E TX HO1.out HOX.out W))
      have HEd := hid (exk hE2 ((Below.refl wr.heap.size wr).drew) (lt_of_block hE2))
      obtain ⟨⟨c0, c1, c2⟩, ⟨z0, z1, z2⟩, l0⟩ := exb hE2
      obtain ⟨⟨e0, e1, e2⟩, _, hll⟩ := exb HEd.out
      have HLD := hid hll
      have f4 : wr.drew.cell? ⟨b, 4, none⟩ = some (.iface tn tv) := d4
      clear hTX hll hi hz
      go_wp2_with fail
      go_region_with (first
          | (have _ := HE5
             go_at_call 81
             refine (HWI.out _).mono ?_
             rintro e w6 ⟨rfl, hb6⟩
             have hE6 := exk HE5.out hb6 (lt_of_block HE5.out)
             have HE6 := hid hE6
             obtain ⟨x0, x1, x2⟩ := (exb hE6).1
             obtain ⟨y0, y1, y2⟩ := (exb hE6).2.1
             have l6 := (exb hE6).2.2
             have HB6 := hid (HB5.out.trans (Bxe.of_below hb6 (Nat.le_refl _)))
             clear hb6 hE6)
          | (go_at_call 82
             refine (HTA.out _).mono ?_
             rintro e w5 ⟨rfl, hb5⟩
             have HE5 := hid (exk HEd.out hb5 HLD.out)
             obtain ⟨q0, q1, q2⟩ := (exb HE5.out).1
             have HB5 := hid (show Bxe w3.heap.size wr w5 from (Bxe.of_below (Below.refl wr.heap.size wr).drew (Nat.le_refl _)).trans (Bxe.of_below hb5 (Nat.le_refl _)))
             clear hb5))
      all_goals
       have HEA := hid (show ExB (((w6.setCell ⟨w3.heap.size, 0, none⟩ (.int .i64 ((E.wi TX).a : Int))).setCell ⟨w3.heap.size, 1, none⟩ (.int .i64 ((E.wi TX).b : Int))).setCell ⟨w3.heap.size, 2, none⟩ (.int .i64 ((E.wi TX).n : Int))) w3.heap.size (E.wi TX) from exB_set HE6.out)
       have HXA := hid (show Bxe w3.heap.size w3 (((w6.setCell ⟨w3.heap.size, 0, none⟩ (.int .i64 ((E.wi TX).a : Int))).setCell ⟨w3.heap.size, 1, none⟩ (.int .i64 ((E.wi TX).b : Int))).setCell ⟨w3.heap.size, 2, none⟩ (.int .i64 ((E.wi TX).n : Int))) from hX.out.trans (((HB6.out.set _).set _).set _))
       have k6 := kept_bx HK3.out HXA.out (by omega) (by omega)
       have g5 := (ces ((k6 b hlt0).trans HBLK.out)).2.2.2.2.2.1
       obtain ⟨E3, hE3⟩ : ∃ E3, E.wi TX = E3 := ⟨_, rfl⟩
       have HEA2 := hid (fun (W : World) (h : ExB W w3.heap.size (E.wi TX)) => (show ExB W w3.heap.size E3 from by rw [← hE3]; exact h))
       have HOK4 := hid (show (wis E3 (ks.map Tm.ex)).ok from by rw [← hE3]; exact HOK5.out)
       have HFIN3 := hid (show Tm.exs ks (exT (some t) (exB bs (Ex.head hd.size))) = wis E3 (ks.map Tm.ex) from by rw [← hE3]; exact HFIN2.out)
       clear hX k6 hE3 HFIN2 HOK5
       go_wp2_with fail
       go_loopw [54] (fun u wr => ∃ i : Nat, i ≤ kl ∧ u = .int .i64 (i : Int) ∧ Hid (ExB wr w3.heap.size (wis E3 ((ks.map Tm.ex).take i))) ∧ Hid (Bxe w3.heap.size w3 wr)) (fun u _ => kl - (intOf u).toNat)
       case atStart => exact ⟨0, Nat.zero_le _, rfl, (hid (HEA2.out _ HEA.out)), HXA⟩
       case round =>
        obtain ⟨i, hi, rfl, hE, hX⟩ := hrel
        have hz := hX.out.size
        have hkw := kept_bx HK3.out hX.out (by omega) (by omega)
        by_cases hlt : i < kl
        ·have d1 : (i : Int) < (kl : Int) := by omega
         obtain ⟨x, hx⟩ : ∃ x, ks[i]? = some x := ⟨_, List.getElem?_eq_getElem (by rw [HKL.out]; exact hlt)⟩
         obtain ⟨g, rfl, _, hc⟩ := HKV.out i _ (ptrs_get A hlt)
         have hcc := hkw.cell hc
         obtain ⟨TX0, hT0⟩ : ∃ T, x.ex = T := ⟨_, rfl⟩
         have hti : (ks.map Tm.ex)[i]? = some TX0 := by simp [hx, hT0]
         have hox := exP_ok HOK4.out hti
         have hkd : Kept w0 wr.drew := hkw.below ((Below.refl wr.heap.size wr).drew) (by omega)
         have HT := hid (show Calls Tryz.prog 43 #[.pointer (some ⟨A i, 0, none⟩)] wr.drew fun e w' => e = .returned (exV TX0) ∧ Below wr.drew.heap.size wr.drew w' from by rw [← hT0] at hox ⊢; exact HIH.out i x hx hox wr.drew hkd (by simp; omega))
         clear hx hc hT0 hox hkd
         have hsn := wis_snoc E3 (ks.map Tm.ex) i TX0 hti
         have hok1 := exL_ok HOK4.out i
         have hok2 := exP_ok HOK4.out hti
         obtain ⟨E, hEE⟩ : ∃ E, wis E3 ((ks.map Tm.ex).take i) = E := ⟨_, rfl⟩
         rw [hEE] at hE hsn hok1
         have HSN := hid hsn
         have HO1 := hid hok1
         have HOX := hid hok2
         obtain ⟨TX, hTX⟩ : ∃ TX, TX0 = TX := ⟨_, rfl⟩
         rw [hTX] at HT HSN HOX
         have HWI := hid (fun W => (show Calls Tryz.prog 81 #[.agg #[.int .i64 (E.a : Int), .int .i64 (E.b : Int), .int .i64 (E.n : Int)], exV TX] W fun r w' => r = .returned (.agg #[.int .i64 ((E.wi TX).a : Int), .int .i64 ((E.wi TX).b : Int), .int .i64 ((E.wi TX).n : Int)]) ∧ Below W.heap.size W w' from exWith_any E TX HO1.out HOX.out W))
         have HEd := hid (exk hE.out ((Below.refl wr.heap.size wr).drew) (lt_of_block hE.out))
         obtain ⟨⟨c0, c1, c2⟩, ⟨z0, z1, z2⟩, l0⟩ := exb hE.out
         obtain ⟨⟨e0, e1, e2⟩, _, hll⟩ := exb HEd.out
         have HLD := hid hll
         clear hti hsn hok1 hok2 hEE hTX hll hkw
         go_wp2_with fail
         go_region_with (first
             | (have _ := HE5
                go_at_call 81
                refine (HWI.out _).mono ?_
                rintro e w6 ⟨rfl, hb6⟩
                have hE6 := exk HE5.out hb6 (lt_of_block HE5.out)
                have HE6 := hid hE6
                obtain ⟨x0, x1, x2⟩ := (exb hE6).1
                obtain ⟨y0, y1, y2⟩ := (exb hE6).2.1
                have l6 := (exb hE6).2.2
                have HB6 := hid (HB5.out.trans (Bxe.of_below hb6 (Nat.le_refl _)))
                clear hb6 hE6)
             | (go_at_call 43
                refine (HT.out).mono ?_
                rintro e w5 ⟨rfl, hb5⟩
                have HE5 := hid (exk HEd.out hb5 HLD.out)
                obtain ⟨q0, q1, q2⟩ := (exb HE5.out).1
                have HB5 := hid (show Bxe w3.heap.size wr w5 from (Bxe.of_below (Below.refl wr.heap.size wr).drew (Nat.le_refl _)).trans (Bxe.of_below hb5 (Nat.le_refl _)))
                clear hb5))
         all_goals
          go_wp2_with fail
          go_roundw
          case rel => exact ⟨i + 1, by omega, by go_num, hid (by rw [HSN.out]; exact exB_set HE6.out), hid (hX.out.trans (((HB6.out.set _).set _).set _))⟩
          case measure => simp [intOf]; omega
        ·have hin : i = kl := by omega
         subst hin
         have HE := hid (show (ks.map Tm.ex).take i = ks.map Tm.ex from List.take_of_length_le (by rw [List.length_map, HKL.out]; omega))
         rw [HE.out] at hE
         obtain ⟨c0, c1, c2⟩ := (exb hE.out).1
         have hE0 : ExB wr w.heap.size ⟨0, 0, 0⟩ := (hX.out.block w.heap.size (by omega) (by omega)).trans HE3.out
         obtain ⟨⟨p0, p1, p2⟩, ⟨y0, y1, y2⟩, l0⟩ := exb hE0
         have HEZ := hid hE0
         clear hlt hE0 hkw
         go_wp2_with fail
         have hres := exB_set (u0 := .int .i64 ((wis E3 (ks.map Tm.ex)).a : Int)) (u1 := .int .i64 ((wis E3 (ks.map Tm.ex)).b : Int)) (u2 := .int .i64 ((wis E3 (ks.map Tm.ex)).n : Int)) HEZ.out
         have hr3 := exb (e := wis E3 (ks.map Tm.ex)) hres
         refine bodyPost_ret (v := .agg #[.int .i64 ((wis E3 (ks.map Tm.ex)).a : Int), .int .i64 ((wis E3 (ks.map Tm.ex)).b : Int), .int .i64 ((wis E3 (ks.map Tm.ex)).n : Int)]) (by simp [results, Tryz.results43, go_sem, hr3.1.1, hr3.1.2.1, hr3.1.2.2]) rfl ?_
         refine ⟨by rw [HFIN3.out]; rfl, HB3.out.trans ?_⟩
         have h1 : Below w.heap.size w3 wr := hX.out.to_below (by omega) (by omega)
         exact ((h1.setCell (Nat.le_refl _) _).setCell (Nat.le_refl _) _).setCell (Nat.le_refl _) _
  ·have HX := hid (show (Tm.mk hd a d bs ty ks).ex = Ex.atom a.size by rw [Tm.ex, if_neg ha])
   rw [HX.out]
   have hae : a.toList.isEmpty = false := by
    cases h : a.toList with
    | nil => exact absurd h ha
    | cons x l => rfl
   have HEA := hid (fun W => (show Calls Tryz.prog 79 #[.string a] W fun e w' => e = .returned (.agg #[.int .i64 1, .int .i64 (a.size : Int), .int .i64 0]) ∧ Below W.heap.size W w' from exAtom_any a W))
   clear ha hok
   go_enter Tryz.func43, Tryz.ntmps43
   go_wp2_with fail
   go_at_call 79
   refine (HEA.out _).mono ?_
   rintro e w3 ⟨rfl, hb3⟩
   have hE3 := exk HE0.out hb3 (by omega)
   have HE3 := hid hE3
   have HB3 := hid (HB0.out.trans (hb3.mono (by omega)))
   obtain ⟨⟨p0, p1, p2⟩, ⟨y0, y1, y2⟩, l0⟩ := exb hE3
   clear hb3 hE3
   go_wp2_with fail
   have hres := exB_set (u0 := .int .i64 1) (u1 := .int .i64 (a.size : Int)) (u2 := .int .i64 0) HE3.out
   have hr3 := exb (e := ⟨1, a.size, 0⟩) hres
   refine bodyPost_ret (v := .agg #[.int .i64 1, .int .i64 (a.size : Int), .int .i64 0]) (by
    have h0 := hr3.1.1
    have h1 := hr3.1.2.1
    have h2 := hr3.1.2.2
    simp at h0 h1 h2
    simp [results, Tryz.results43, go_sem, h0, h1, h2]) rfl ?_
   exact ⟨rfl, ((HB3.out.setCell (Nat.le_refl _) _).setCell (Nat.le_refl _) _).setCell (Nat.le_refl _) _⟩
theorem read_ex {s : ByteArray} {m : Tm} (h : readTm s = some m) : m.ex.ok ∧ m.ex.a = m.size := by
 obtain ⟨t, hp, ht, hts, _⟩ := rea h
 obtain ⟨_, hd, hl⟩ := parse_wk hp
 have he := tm_ex t [] m ht
 rw [← he]
 refine ⟨⟨?_, ?_, ?_⟩, tm_size t [] m ht⟩
 ·show t.size ≤ _; omega
 ·show t.write.length ≤ _; omega
 ·show t.dp - 1 ≤ _; omega
theorem exField0 (a b n : Int) (w : World) : (Instr.field 72 (.agg #[.int .i64 a, .int .i64 b, .int .i64 n]) 0).run Tryz.prog w = .ok (.int .i64 a) w := by kernel_rfl
def sizeOfT (s : ByteArray) : Int := match readTm s with
 | some m => (m.size : Int)
 | none => -1
theorem sizeOf_none {s : ByteArray} (h : readTm s = none) : sizeOfT s = -1 := by rw [sizeOfT, h]
theorem sizeOf_some {s : ByteArray} {m : Tm} (h : readTm s = some m) : sizeOfT s = (m.size : Int) := by rw [sizeOfT, h]
theorem implTermSize_any (s : ByteArray) (hs : s.size ≤ 400000000) (w : World) : Calls Tryz.prog 19 #[.string s] w fun e w' => e = .returned (.int .i64 (sizeOfT s)) ∧ Below w.heap.size w w' := by
 have HC := hid (fun W => readTerm_any s hs W)
 cases hr : readTm s with
 | none =>
  have HR := hid hr
  have HS := hid (sizeOf_none hr)
  clear hr
  go_enter Tryz.func19, Tryz.ntmps19
  go_wp2_with (go_at_call 29; refine (HC.out _).mono ?_; rintro e w1 hp; rw [HR.out] at hp; obtain ⟨rfl, hb1⟩ := hp.none; clear hp)
  go_ret
  exact ⟨ret_int HS.out.symm, hb1⟩
 | some m =>
  have HR := hid hr
  have HS := hid (sizeOf_some hr)
  obtain ⟨t, _, _, _, hms⟩ := rea hr
  obtain ⟨hok, hza⟩ := read_ex hr
  have HOK := hid hok
  have HZA := hid hza
  clear hr hok hza
  go_enter Tryz.func19, Tryz.ntmps19
  go_wp2_with fail
  go_at_call 29
  refine (HC.out _).mono ?_
  rintro e w1 hp
  rw [HR.out] at hp
  obtain ⟨b1, rfl, hb1, hn1⟩ := hp.some
  have HN := hid hn1
  clear hp hn1
  go_wp2_with fail
  go_at_call 43
  refine (show Calls Tryz.prog 43 #[.pointer (some ⟨b1, 0, none⟩)] w1 fun e w' => e = .returned (.agg #[.int .i64 (m.size : Int), .int .i64 (m.ex.b : Int), .int .i64 (m.ex.n : Int)]) ∧ Below w1.heap.size w1 w' from by rw [← HZA.out]; exact extent_any HN.out HOK.out w1 (Kept.refl _) (Nat.le_refl _)).mono ?_
  rintro e w2 ⟨rfl, hb2⟩
  have hft := exField0
  go_wp2_with fail
  go_ret
  exact ⟨ret_int HS.out.symm, hb1.trans (hb2.mono hb1.size)⟩
end Go.Proofs.YtfogjomebcponaaGreatDoor
