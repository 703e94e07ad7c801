/- Merged: Texts, KidsP, KidsS, LwP, DmP. -/
import Derived.Test.YtfogjomebcponaaGreatDoorShG
import Derived.Test.YtfogjomebcponaaGreatDoorZG14
namespace Go.Proofs.YtfogjomebcponaaGreatDoor
open Go.RowKit
set_option maxRecDepth 100000
set_option maxHeartbeats 2000000
def TextsPost (l : List Ty) (w : World) (e : Ending) (w' : World) : Prop :=
 (∃ q c, e = .returned (.slice q l.length c) ∧ w'.ownsRow w.heap.size 9 1 (.slice q l.length c) l.length (l.map fun t => Value.string t.text)) ∧ Below w.heap.size w w'
theorem tyx (l : List Ty) (p : Option Addr) (n cap : Nat) (w : World) (hn : Hid (l.length = n)) (hnb : n ≤ 20000) (hv : Vals w p (l.map Ty.val))
    (ih : ∀ (i : Nat) (t : Ty), l[i]? = some t → ∀ W, Calls Tryz.prog 31 #[t.val] W fun e w' => e = .returned (.string t.text) ∧ Below W.heap.size W w') :
    Calls Tryz.prog 66 #[.slice p n cap] w (TextsPost l w) := by
 have HV := hid hv
 have HIH := hid ih
 clear hv ih
 go_enter Tryz.func66, Tryz.ntmps66
 go_wp2_with fail
 go_loopw [3, 8] (fun v u wr => ∃ (i c : Nat) (q : Option Addr), i ≤ n ∧ u = .int .i64 (i : Int) ∧ v = .slice q i c ∧ wr.ownsRow w.heap.size 9 1 (.slice q i c) i ((l.take i).map fun t => Value.string t.text) ∧ Below w.heap.size w wr) (fun _ u _ => n - (intOf u).toNat)
 case atStart => exact ⟨0, 0, none, Nat.zero_le _, rfl, rfl, World.ownsRow_nil _ _ _ _, Below.refl _ _⟩
 case round =>
  obtain ⟨i, c, q, hi, rfl, rfl, hown, hbel⟩ := hrel
  have HOWN := hid hown
  have hz := hbel.size
  clear hown
  by_cases hlt : i < n
  ·obtain ⟨t, ht⟩ : ∃ t, l[i]? = some t := ⟨_, List.getElem?_eq_getElem (by rw [hn.out]; exact hlt)⟩
   obtain ⟨b, o, rfl, hc⟩ := HV.out i t.val (by simp [ht])
   have hc' := (hbel.cell (p := ⟨b, o + i, none⟩) (World.block_lt_of_cell? w _ hc)).trans hc
   have HC := hid (HIH.out i t ht)
   have HT := hid ht
   obtain ⟨x, hx⟩ : ∃ x, t.text = x := ⟨_, rfl⟩
   have HX := hid hx
   obtain ⟨i0, hi0, hz0, hz1, hz2⟩ := info_parts Tryz.infoStr
   clear hc ht hx
   go_wp2_with (first | (at_builtin; refine wpl _ rfl (.tmp 12) (.tmp 15) 22 rfl w.heap.size 9 i0 (.string ByteArray.empty) 1 16 Tryz.underlying22 hi0 hz0 hz1 hz2 rfl (by decide) (.slice q i c) i _ rfl ((ows HOWN.out hb1).alloc _) ⟨w1.heap.size, 0, none⟩ 1 1 [.string x] rfl rfl (cen _ _ _ _ rfl) (by intro u hu; simp at hu; subst hu; rfl) (by decide) (by unfold maxLen; omega) (by omega) (by have := hb1.size; simp; omega) ?_; intro v' w2 hown2 hg2 hw2 hv2; obtain ⟨g2, kc2, rfl⟩ := hv2; have HG := hid hg2; have HO := hid hown2; clear hg2 hown2 hw2) | (go_at_call 31; refine (HC.out _).mono ?_; rintro e w1 ⟨he1, hb1⟩; rw [HX.out] at he1; subst he1))
   go_roundw
   case rel =>
    refine ⟨i + 1, kc2, some ⟨g2, 0, none⟩, by omega, by go_num, rfl, ?_, ?_⟩
    ·rw [List.take_add_one, HT.out, List.map_append]; simp only [Option.toList_some, List.map_cons, List.map_nil]; rw [HX.out]; exact HO.out
    ·have hlo := HOWN.out.lt
     have s1 := hb1.size
     exact ((hbel.trans (hb1.mono hz)).alloc (by omega) _).grown HG.out (by simp; omega) (fun k e => (hlo k e).1)
   case measure => simp [intOf]; omega
  ·have hin : i = n := by omega
   have HI := hid hin
   clear hin
   go_wp2_with fail
   go_ret
   refine ⟨⟨q, c, ?_, ?_⟩, hbel⟩
   ·rw [hn.out, ← HI.out]; rfl
   ·have := HOWN.out
    rw [HI.out, List.take_of_length_le (Nat.le_of_eq hn.out)] at this
    rw [hn.out]; exact this
theorem own_slice {w : World} {base : Nat} {e : TypeId} {q : Option Addr} {n c : Nat} {xs : List Value} (h : w.ownsRow base e 1 (.slice q n c) n xs) (h0 : 0 < n) :
    ∃ g, q = some ⟨g, 0, none⟩ ∧ n ≤ c ∧ base ≤ g ∧ g < w.heap.size ∧ ∀ j v, xs[j]? = some v → w.cell? ⟨g, 0 + j, none⟩ = some v := by
 rcases h.2 with ⟨_, hn⟩ | ⟨g, cap, cur, hv, hbg, hg, hnc, _⟩
 ·omega
 ·obtain ⟨rfl, rfl⟩ : q = some ⟨g, 0, none⟩ ∧ c = cap := by simp at hv; exact hv
  refine ⟨g, rfl, hnc, hbg, lt_of_block hg, fun j v hj => ?_⟩
  have hc := h.cells (g := g) rfl j v hj
  have hadd : (⟨g, 0, none⟩ : Addr).add j = ⟨g, 0 + j, none⟩ := by unfold Addr.add; split <;> simp_all
  rw [← hadd]; exact hc
theorem str_get {l : List Ty} {j : Nat} {x : ByteArray} (hj : (l.map Ty.text)[j]? = some x) : (l.map fun t => Value.string t.text)[j]? = some (.string x) := by
 rw [List.getElem?_map] at hj ⊢
 cases h : l[j]? with
 | none => rw [h] at hj; simp at hj
 | some t => rw [h] at hj; simp at hj; subst hj; rfl
theorem join_two (x y : Ty) : Lib.join ([x.text, y.text].map (·.data.toList)) ({ data := #[32] } : ByteArray).data.toList = x.write ++ 32 :: y.write := by
 rw [List.map_cons, Lib.join_cons]; simp [Lib.joinTail, Ty.text]
theorem join_one' (x : Ty) : Lib.join ([x.text].map (·.data.toList)) ({ data := #[32] } : ByteArray).data.toList = x.write := by
 rw [List.map_cons, List.map_nil, Lib.join_one]; simp [Ty.text]
theorem text_eq {J : ByteArray} {h : UInt8} {L : List UInt8} {t : Ty} (hJ : J = ⟨L.toArray⟩) (ht : t.write = 40 :: h :: 32 :: (L ++ [41])) :
    ((((({ data := #[40] } : ByteArray) ++ ({ data := #[h] } : ByteArray)) ++ ({ data := #[32] } : ByteArray)) ++ J) ++ ({ data := #[41] } : ByteArray)) = t.text := by
 have hh : ({ data := #[h] } : ByteArray).toList = [h] := by rw [Go.ByteArray.toList_eq]
 have h1 : ({ data := #[40] } : ByteArray).toList = [40] := by rw [Go.ByteArray.toList_eq]
 have h2 : ({ data := #[41] } : ByteArray).toList = [41] := by rw [Go.ByteArray.toList_eq]
 have h3 : J.toList = L := by rw [Go.ByteArray.toList_eq, hJ]
 have := byt (a := (((({ data := #[40] } : ByteArray) ++ ({ data := #[h] } : ByteArray)) ++ ({ data := #[32] } : ByteArray)) ++ J) ++ ({ data := #[41] } : ByteArray)) (l := t.write) (by rw [app, app, app, app, hh, h1, h2, h3, space_toList, ht]; simp)
 rw [this]; rfl
theorem typeText_pair (x y : Ty) (hsz : (Ty.pair x y).write.length ≤ 20000) (ihx : ∀ W, Calls Tryz.prog 31 #[x.val] W fun e w' => e = .returned (.string x.text) ∧ Below W.heap.size W w') (ihy : ∀ W, Calls Tryz.prog 31 #[y.val] W fun e w' => e = .returned (.string y.text) ∧ Below W.heap.size W w') (w : World) :
    Calls Tryz.prog 31 #[(Ty.pair x y).val] w fun e w' => e = .returned (.string (Ty.pair x y).text) ∧ Below w.heap.size w w' := by
 have IHx := hid ihx
 have IHy := hid ihy
 have HSZ := hid hsz
 have mk1 := m_kids_pair x.val y.val
 have mk2 := m_head_pair x.val y.val
 have HT := hid (fun (p : Option Addr) W (hv : Vals W p ([x, y].map Ty.val)) => tyx [x, y] p 2 2 W rfl (by decide) hv (by intro i t ht; match i, ht with | 0, ht => simp at ht; subst ht; exact IHx.out | 1, ht => simp at ht; subst ht; exact IHy.out))
 have hjl : (x.write ++ 32 :: y.write).length ≤ 20000 := by simp [Ty.write] at hsz ⊢; omega
 have HJL := hid hjl
 have HN := hid (show ([x.text, y.text] : List ByteArray).length ≤ 140737488355328 by simp)
 have HJB := hid (show (Lib.join ([x.text, y.text].map (·.data.toList)) ({ data := #[32] } : ByteArray).data.toList).length ≤ 140737488355328 by rw [join_two x y]; omega)
 clear hsz hjl ihx ihy
 simp only [Ty.val]
 go_enter Tryz.func31, Tryz.ntmps31
 go_wp2_with (first | (go_at_call 199; refine (kids_pair x y _).mono ?_; rintro e w1 ⟨b, rfl, hb0, hb1⟩; have HV := hid (vat hb0)) | (go_at_call 198; refine (head_pair _ _ _).mono ?_; rintro e w2 ⟨rfl, hb2⟩) | (go_at_call 66; refine (HT.out _ _ ((HV.out).kept (Kept.of_below hb2 (Nat.le_refl _)))).mono ?_; rintro e w3 ⟨⟨q, c, rfl, hown⟩, hb3⟩; obtain ⟨g, rfl, hnc, hbg, hgl, hcl⟩ := own_slice hown (Nat.succ_pos _); have HC := hid hcl; clear hown hcl) | (go_at_call 65; refine (Tryz.strings_Join g 0 c [x.text, y.text] ({ data := #[32] } : ByteArray) _ (fun j z hj => HC.out j (.string z) (str_get (l := [x, y]) hj)) hgl HN.out hnc HJB.out).mono ?_; rintro e w4 ⟨he4, hb4⟩; obtain ⟨J, hJ⟩ : ∃ J, J = ({ data := (Lib.join ([x.text, y.text].map (·.data.toList)) ({ data := #[32] } : ByteArray).data.toList).toArray } : ByteArray) := ⟨_, rfl⟩; rw [← hJ] at he4; subst he4; rw [join_two x y] at hJ; have hJs : J.size ≤ 20000 := (by rw [hJ]; simpa [ByteArray.size] using HJL.out); have HJ := hid hJ; clear hJ))
 go_ret
 refine ⟨rer (text_eq HJ.out (by simp [Ty.write])), ?_⟩
 exact (hb1.trans (hb2.mono hb1.size)).trans ((hb3.mono (by have := hb1.size; have := hb2.size; omega)).trans (hb4.mono (by have := hb1.size; have := hb2.size; have := hb3.size; omega)))
theorem typeText_thunk (x : Ty) (hsz : (Ty.thunk x).write.length ≤ 20000) (ihx : ∀ W, Calls Tryz.prog 31 #[x.val] W fun e w' => e = .returned (.string x.text) ∧ Below W.heap.size W w') (w : World) :
    Calls Tryz.prog 31 #[(Ty.thunk x).val] w fun e w' => e = .returned (.string (Ty.thunk x).text) ∧ Below w.heap.size w w' := by
 have IHx := hid ihx
 have HSZ := hid hsz
 have mk1 := m_kids_thunk x.val
 have mk2 := m_head_thunk x.val
 have HT := hid (fun (p : Option Addr) W (hv : Vals W p ([x].map Ty.val)) => tyx [x] p 1 1 W rfl (by decide) hv (by intro i t ht; match i, ht with | 0, ht => simp at ht; subst ht; exact IHx.out))
 have hjl : (x.write).length ≤ 20000 := by simp [Ty.write] at hsz ⊢; omega
 have HJL := hid hjl
 have HN := hid (show ([x.text] : List ByteArray).length ≤ 140737488355328 by simp)
 have HJB := hid (show (Lib.join ([x.text].map (·.data.toList)) ({ data := #[32] } : ByteArray).data.toList).length ≤ 140737488355328 by rw [join_one' x]; omega)
 clear hsz hjl ihx
 simp only [Ty.val]
 go_enter Tryz.func31, Tryz.ntmps31
 go_wp2_with (first | (go_at_call 203; refine (kids_thunk x _).mono ?_; rintro e w1 ⟨b, rfl, hb0, hb1⟩; have HV := hid (vao hb0)) | (go_at_call 202; refine (head_thunk _ _).mono ?_; rintro e w2 ⟨rfl, hb2⟩) | (go_at_call 66; refine (HT.out _ _ ((HV.out).kept (Kept.of_below hb2 (Nat.le_refl _)))).mono ?_; rintro e w3 ⟨⟨q, c, rfl, hown⟩, hb3⟩; obtain ⟨g, rfl, hnc, hbg, hgl, hcl⟩ := own_slice hown (Nat.succ_pos _); have HC := hid hcl; clear hown hcl) | (go_at_call 65; refine (Tryz.strings_Join g 0 c [x.text] ({ data := #[32] } : ByteArray) _ (fun j z hj => HC.out j (.string z) (str_get (l := [x]) hj)) hgl HN.out hnc HJB.out).mono ?_; rintro e w4 ⟨he4, hb4⟩; obtain ⟨J, hJ⟩ : ∃ J, J = ({ data := (Lib.join ([x.text].map (·.data.toList)) ({ data := #[32] } : ByteArray).data.toList).toArray } : ByteArray) := ⟨_, rfl⟩; rw [← hJ] at he4; subst he4; rw [join_one' x] at hJ; have hJs : J.size ≤ 20000 := (by rw [hJ]; simpa [ByteArray.size] using HJL.out); have HJ := hid hJ; clear hJ))
 go_ret
 refine ⟨rer (text_eq HJ.out (by simp [Ty.write])), ?_⟩
 exact (hb1.trans (hb2.mono hb1.size)).trans ((hb3.mono (by have := hb1.size; have := hb2.size; omega)).trans (hb4.mono (by have := hb1.size; have := hb2.size; have := hb3.size; omega)))
theorem typeText_ret (x : Ty) (hsz : (Ty.ret x).write.length ≤ 20000) (ihx : ∀ W, Calls Tryz.prog 31 #[x.val] W fun e w' => e = .returned (.string x.text) ∧ Below W.heap.size W w') (w : World) :
    Calls Tryz.prog 31 #[(Ty.ret x).val] w fun e w' => e = .returned (.string (Ty.ret x).text) ∧ Below w.heap.size w w' := by
 have IHx := hid ihx
 have HSZ := hid hsz
 have mk1 := m_kids_ret x.val
 have mk2 := m_head_ret x.val
 have HT := hid (fun (p : Option Addr) W (hv : Vals W p ([x].map Ty.val)) => tyx [x] p 1 1 W rfl (by decide) hv (by intro i t ht; match i, ht with | 0, ht => simp at ht; subst ht; exact IHx.out))
 have hjl : (x.write).length ≤ 20000 := by simp [Ty.write] at hsz ⊢; omega
 have HJL := hid hjl
 have HN := hid (show ([x.text] : List ByteArray).length ≤ 140737488355328 by simp)
 have HJB := hid (show (Lib.join ([x.text].map (·.data.toList)) ({ data := #[32] } : ByteArray).data.toList).length ≤ 140737488355328 by rw [join_one' x]; omega)
 clear hsz hjl ihx
 simp only [Ty.val]
 go_enter Tryz.func31, Tryz.ntmps31
 go_wp2_with (first | (go_at_call 207; refine (kids_ret x _).mono ?_; rintro e w1 ⟨b, rfl, hb0, hb1⟩; have HV := hid (vao hb0)) | (go_at_call 206; refine (head_ret _ _).mono ?_; rintro e w2 ⟨rfl, hb2⟩) | (go_at_call 66; refine (HT.out _ _ ((HV.out).kept (Kept.of_below hb2 (Nat.le_refl _)))).mono ?_; rintro e w3 ⟨⟨q, c, rfl, hown⟩, hb3⟩; obtain ⟨g, rfl, hnc, hbg, hgl, hcl⟩ := own_slice hown (Nat.succ_pos _); have HC := hid hcl; clear hown hcl) | (go_at_call 65; refine (Tryz.strings_Join g 0 c [x.text] ({ data := #[32] } : ByteArray) _ (fun j z hj => HC.out j (.string z) (str_get (l := [x]) hj)) hgl HN.out hnc HJB.out).mono ?_; rintro e w4 ⟨he4, hb4⟩; obtain ⟨J, hJ⟩ : ∃ J, J = ({ data := (Lib.join ([x.text].map (·.data.toList)) ({ data := #[32] } : ByteArray).data.toList).toArray } : ByteArray) := ⟨_, rfl⟩; rw [← hJ] at he4; subst he4; rw [join_one' x] at hJ; have hJs : J.size ≤ 20000 := (by rw [hJ]; simpa [ByteArray.size] using HJL.out); have HJ := hid hJ; clear hJ))
 go_ret
 refine ⟨rer (text_eq HJ.out (by simp [Ty.write])), ?_⟩
 exact (hb1.trans (hb2.mono hb1.size)).trans ((hb3.mono (by have := hb1.size; have := hb2.size; omega)).trans (hb4.mono (by have := hb1.size; have := hb2.size; have := hb3.size; omega)))
theorem typeText_fn (x y : Ty) (hsz : (Ty.fn x y).write.length ≤ 20000) (ihx : ∀ W, Calls Tryz.prog 31 #[x.val] W fun e w' => e = .returned (.string x.text) ∧ Below W.heap.size W w') (ihy : ∀ W, Calls Tryz.prog 31 #[y.val] W fun e w' => e = .returned (.string y.text) ∧ Below W.heap.size W w') (w : World) :
    Calls Tryz.prog 31 #[(Ty.fn x y).val] w fun e w' => e = .returned (.string (Ty.fn x y).text) ∧ Below w.heap.size w w' := by
 have IHx := hid ihx
 have IHy := hid ihy
 have HSZ := hid hsz
 have mk1 := m_kids_fn x.val y.val
 have mk2 := m_head_fn x.val y.val
 have HT := hid (fun (p : Option Addr) W (hv : Vals W p ([x, y].map Ty.val)) => tyx [x, y] p 2 2 W rfl (by decide) hv (by intro i t ht; match i, ht with | 0, ht => simp at ht; subst ht; exact IHx.out | 1, ht => simp at ht; subst ht; exact IHy.out))
 have hjl : (x.write ++ 32 :: y.write).length ≤ 20000 := by simp [Ty.write] at hsz ⊢; omega
 have HJL := hid hjl
 have HN := hid (show ([x.text, y.text] : List ByteArray).length ≤ 140737488355328 by simp)
 have HJB := hid (show (Lib.join ([x.text, y.text].map (·.data.toList)) ({ data := #[32] } : ByteArray).data.toList).length ≤ 140737488355328 by rw [join_two x y]; omega)
 clear hsz hjl ihx ihy
 simp only [Ty.val]
 go_enter Tryz.func31, Tryz.ntmps31
 go_wp2_with (first | (go_at_call 211; refine (kids_fn x y _).mono ?_; rintro e w1 ⟨b, rfl, hb0, hb1⟩; have HV := hid (vat hb0)) | (go_at_call 210; refine (head_fn _ _ _).mono ?_; rintro e w2 ⟨rfl, hb2⟩) | (go_at_call 66; refine (HT.out _ _ ((HV.out).kept (Kept.of_below hb2 (Nat.le_refl _)))).mono ?_; rintro e w3 ⟨⟨q, c, rfl, hown⟩, hb3⟩; obtain ⟨g, rfl, hnc, hbg, hgl, hcl⟩ := own_slice hown (Nat.succ_pos _); have HC := hid hcl; clear hown hcl) | (go_at_call 65; refine (Tryz.strings_Join g 0 c [x.text, y.text] ({ data := #[32] } : ByteArray) _ (fun j z hj => HC.out j (.string z) (str_get (l := [x, y]) hj)) hgl HN.out hnc HJB.out).mono ?_; rintro e w4 ⟨he4, hb4⟩; obtain ⟨J, hJ⟩ : ∃ J, J = ({ data := (Lib.join ([x.text, y.text].map (·.data.toList)) ({ data := #[32] } : ByteArray).data.toList).toArray } : ByteArray) := ⟨_, rfl⟩; rw [← hJ] at he4; subst he4; rw [join_two x y] at hJ; have hJs : J.size ≤ 20000 := (by rw [hJ]; simpa [ByteArray.size] using HJL.out); have HJ := hid hJ; clear hJ))
 go_ret
 refine ⟨rer (text_eq HJ.out (by simp [Ty.write])), ?_⟩
 exact (hb1.trans (hb2.mono hb1.size)).trans ((hb3.mono (by have := hb1.size; have := hb2.size; omega)).trans (hb4.mono (by have := hb1.size; have := hb2.size; have := hb3.size; omega)))
theorem typeText_choice (x y : Ty) (hsz : (Ty.choice x y).write.length ≤ 20000) (ihx : ∀ W, Calls Tryz.prog 31 #[x.val] W fun e w' => e = .returned (.string x.text) ∧ Below W.heap.size W w') (ihy : ∀ W, Calls Tryz.prog 31 #[y.val] W fun e w' => e = .returned (.string y.text) ∧ Below W.heap.size W w') (w : World) :
    Calls Tryz.prog 31 #[(Ty.choice x y).val] w fun e w' => e = .returned (.string (Ty.choice x y).text) ∧ Below w.heap.size w w' := by
 have IHx := hid ihx
 have IHy := hid ihy
 have HSZ := hid hsz
 have mk1 := m_kids_choice x.val y.val
 have mk2 := m_head_choice x.val y.val
 have HT := hid (fun (p : Option Addr) W (hv : Vals W p ([x, y].map Ty.val)) => tyx [x, y] p 2 2 W rfl (by decide) hv (by intro i t ht; match i, ht with | 0, ht => simp at ht; subst ht; exact IHx.out | 1, ht => simp at ht; subst ht; exact IHy.out))
 have hjl : (x.write ++ 32 :: y.write).length ≤ 20000 := by simp [Ty.write] at hsz ⊢; omega
 have HJL := hid hjl
 have HN := hid (show ([x.text, y.text] : List ByteArray).length ≤ 140737488355328 by simp)
 have HJB := hid (show (Lib.join ([x.text, y.text].map (·.data.toList)) ({ data := #[32] } : ByteArray).data.toList).length ≤ 140737488355328 by rw [join_two x y]; omega)
 clear hsz hjl ihx ihy
 simp only [Ty.val]
 go_enter Tryz.func31, Tryz.ntmps31
 go_wp2_with (first | (go_at_call 215; refine (kids_choice x y _).mono ?_; rintro e w1 ⟨b, rfl, hb0, hb1⟩; have HV := hid (vat hb0)) | (go_at_call 214; refine (head_choice _ _ _).mono ?_; rintro e w2 ⟨rfl, hb2⟩) | (go_at_call 66; refine (HT.out _ _ ((HV.out).kept (Kept.of_below hb2 (Nat.le_refl _)))).mono ?_; rintro e w3 ⟨⟨q, c, rfl, hown⟩, hb3⟩; obtain ⟨g, rfl, hnc, hbg, hgl, hcl⟩ := own_slice hown (Nat.succ_pos _); have HC := hid hcl; clear hown hcl) | (go_at_call 65; refine (Tryz.strings_Join g 0 c [x.text, y.text] ({ data := #[32] } : ByteArray) _ (fun j z hj => HC.out j (.string z) (str_get (l := [x, y]) hj)) hgl HN.out hnc HJB.out).mono ?_; rintro e w4 ⟨he4, hb4⟩; obtain ⟨J, hJ⟩ : ∃ J, J = ({ data := (Lib.join ([x.text, y.text].map (·.data.toList)) ({ data := #[32] } : ByteArray).data.toList).toArray } : ByteArray) := ⟨_, rfl⟩; rw [← hJ] at he4; subst he4; rw [join_two x y] at hJ; have hJs : J.size ≤ 20000 := (by rw [hJ]; simpa [ByteArray.size] using HJL.out); have HJ := hid hJ; clear hJ))
 go_ret
 refine ⟨rer (text_eq HJ.out (by simp [Ty.write])), ?_⟩
 exact (hb1.trans (hb2.mono hb1.size)).trans ((hb3.mono (by have := hb1.size; have := hb2.size; omega)).trans (hb4.mono (by have := hb1.size; have := hb2.size; have := hb3.size; omega)))
theorem tye : ∀ (t : Ty), t.write.length ≤ 20000 → ∀ w, Calls Tryz.prog 31 #[t.val] w fun e w' => e = .returned (.string t.text) ∧ Below w.heap.size w w'
 | .bit, _, w => by
  have mk1 := m_kids_bit
  have mk2 := m_head_bit
  simp only [Ty.val]
  go_enter Tryz.func31, Tryz.ntmps31
  go_wp2_with (first | (go_at_call 219; refine (kids_bit _).mono ?_; rintro e w1 ⟨rfl, hb1⟩) | (go_at_call 218; refine (head_bit _).mono ?_; rintro e w2 ⟨rfl, hb2⟩))
  go_ret
  exact ⟨rfl, hb1.trans (hb2.mono hb1.size)⟩
 | .pair x y, h, w => typeText_pair x y h (fun W => tye x (by simp [Ty.write] at h; omega) W) (fun W => tye y (by simp [Ty.write] at h; omega) W) w
 | .thunk x, h, w => typeText_thunk x h (fun W => tye x (by simp [Ty.write] at h; omega) W) w
 | .ret x, h, w => typeText_ret x h (fun W => tye x (by simp [Ty.write] at h; omega) W) w
 | .fn x y, h, w => typeText_fn x y h (fun W => tye x (by simp [Ty.write] at h; omega) W) (fun W => tye y (by simp [Ty.write] at h; omega) W) w
 | .choice x y, h, w => typeText_choice x y h (fun W => tye x (by simp [Ty.write] at h; omega) W) (fun W => tye y (by simp [Ty.write] at h; omega) W) w
theorem typeText_any (t : Ty) (h : t.write.length ≤ 12000) (w : World) : Calls Tryz.prog 31 #[t.val] w fun e w' => e = .returned (.string t.text) ∧ Below w.heap.size w w' := tye t (by omega) w
def KidsPost (o : Option Ty) (w : World) (e : Ending) (w' : World) : Prop :=
 (∃ q c, e = .returned (.tuple #[.slice q (kidsO o).length c, .bool o.isSome]) ∧ w'.ownsRow w.heap.size 9 1 (.slice q (kidsO o).length c) (kidsO o).length ((kidsO o).map fun t => Value.string t.text)) ∧ Below w.heap.size w w'
theorem kidsPost_some {ty : Ty} {l : List Ty} (hl : ty.kids = l) {w w1 w' : World} {q : Option Addr} {n c : Nat} (hn : l.length = n) (h1 : w.heap.size ≤ w1.heap.size) (hown : w'.ownsRow w1.heap.size 9 1 (.slice q l.length c) l.length (l.map fun t => Value.string t.text)) (hb : Below w.heap.size w w') :
    KidsPost (some ty) w (.returned (.tuple #[.slice q n c, .bool true])) w' := by
 subst hl; subst hn; exact ⟨⟨q, c, rfl, own_base hown h1⟩, hb⟩
theorem txt_ty {t : Tree} {ty : Ty} (h : t.ty = some ty) : t.txt = ty.text := by rw [Tree.txt, Ty.text, ty_write t ty h]
theorem own_zero {w : World} {t : TypeId} {B g : Nat} (hg : g = w.heap.size) (hB : B ≤ g) : (w.alloc (.cells #[] t)).ownsRow B t 1 (.slice (some ⟨g, 0, none⟩) 0 0) 0 [] := by
 subst hg; exact World.ownsRow_made w #[] 0 hB (Nat.zero_le _) rfl
theorem kidsPost_zero {o : Option Ty} {w w' : World} {g : Nat} {d : Bool} (hk : kidsO o = []) (hd : o.isSome = d) (hown : w'.ownsRow w.heap.size 9 1 (.slice (some ⟨g, 0, none⟩) 0 0) 0 []) (hb : Below w.heap.size w w') :
    KidsPost o w (.returned (.tuple #[.slice (some ⟨g, 0, none⟩) 0 0, .bool d])) w' := by
 subst hd; exact ⟨⟨some ⟨g, 0, none⟩, 0, by rw [hk]; rfl, by rw [hk]; exact hown⟩, hb⟩
theorem spc (s : ByteArray) (hs : s.size ≤ 400000000) (w : World) : Calls Tryz.prog 117 #[.string s] w (KidsPost (readTy s) w) := by
 have HC := hid (fun W => l1Type_any s hs W)
 cases ht : ty0 s with
 | none =>
  have HR := hid (ty1 ht)
  have HT := hid ht
  clear ht
  rw [HR.out]
  go_enter Tryz.func117, Tryz.ntmps117
  go_wp2_with (go_at_call 98; refine (HC.out _).mono ?_; rintro e w1 hp; rw [HT.out] at hp; obtain ⟨pa, pp, pl, pc, rfl, hpl, hb1⟩ := hp.none; clear hp)
  refine wp_loop_rounds 1 ?_
  rw [rounds_succ]
  have hmp : pl ≤ 9223372036854775807 := by unfold maxLen at hpl; omega
  rcases Nat.lt_or_ge 1 pl with h1 | h1
  all_goals
   go_wp2_with fail
   go_ret2
   have s1 := hb1.size
   exact kidsPost_zero rfl rfl (own_zero (by simp) (by omega)) ((hb1.alloc s1 _).alloc (by simp; omega) _)
 | some t =>
  obtain ⟨hpt, hsz, ty, hty, hrt, hk⟩ := tym ht
  have hwt := pas hpt
  have hsm := parse_small hpt
  have HR := hid hrt
  have HT := hid ht
  clear ht hpt hrt hk
  rw [HR.out]
  cases t with
  | atom x =>
   have hkd : ty.kids = [] := by
    rw [Tree.ty] at hty; split at hty
    ·simp at hty; subst hty; rfl
    ·simp at hty
   have HKD := hid hkd
   clear hkd hty
   go_enter Tryz.func117, Tryz.ntmps117
   go_wp2_with (go_at_call 98; refine (HC.out _).mono ?_; rintro e w1 hp; rw [HT.out] at hp; obtain ⟨pa, pp, pl, pc, rfl, hb1, htr⟩ := hp.some; clear hp; obtain ⟨rfl, rfl, rfl, rfl, hne⟩ := htr.atom_inv; clear htr)
   refine wp_loop_rounds 1 ?_
   rw [rounds_succ]
   go_wp2_with fail
   go_ret2
   have s1 := hb1.size
   exact kidsPost_zero HKD.out rfl (own_zero (by simp) (by omega)) ((hb1.alloc s1 _).alloc (by simp; omega) _)
  | node ps =>
   cases ps with
   | nil => simp [Tree.ty] at hty
   | cons q qs =>
    rw [Tree.ty] at hty
    cases hks : Tree.tys qs with
    | none => rw [hks] at hty; simp at hty
    | some ks =>
     rw [hks] at hty; simp only at hty
     obtain ⟨n, hn⟩ : ∃ n, n = qs.length := ⟨_, rfl⟩
     have HKD := hid (tyParts_kids hty)
     have HG := hid (tys_get qs ks hks)
     have HKL := hid (show ks.length = n by rw [tys_length qs ks hks, hn])
     have HLQ := hid (show (q :: qs).length = n + 1 by rw [hn]; rfl)
     have HN := hid hn
     have hwl : ∀ (i : Nat) (p : Tree), (q :: qs)[i]? = some p → p.write.length ≤ 12000 ∧ p.wt ≤ 12000 := fun i p hp => by
      have h1 := join_part (q :: qs) i p hp
      have h2 := wtp (q :: qs) i p hp
      rw [wre] at hsm
      rw [Tree.wt] at hwt
      simp at hsm; omega
     have HWL := hid hwl
     have hlen := wtl (q :: qs)
     rw [Tree.wt] at hwt
     rw [HLQ.out] at hlen
     have hn2 : n + 1 ≤ 12000 := by omega
     clear hty hks hn hwl hlen hwt hsm hsz
     go_enter Tryz.func117, Tryz.ntmps117
     go_wp2_with (go_at_call 98; refine (HC.out _).mono ?_; rintro e w1 hp; rw [HT.out] at hp; obtain ⟨pa, pp, pl, cap, rfl, hb1, htr⟩ := hp.some; clear hp; obtain ⟨b, A, hpa, hpp, hpl, hlc, hcm, hp0, hA, hB, hps⟩ := htr.node_inv; clear htr; subst hpa; subst hpp; rw [HLQ.out] at hpl hlc hA hB; subst hpl; have HA := hid hA; have HB := hid hB; have HPS := hid hps; clear hA hB hps hp0)
     have s1 := hb1.size
     have hmc : cap ≤ 9223372036854775807 := by unfold maxLen at hcm; omega
     go_loopw [6, 7] (fun v u wr => ∃ (j c : Nat) (g : Option Addr), j ≤ n ∧ u = .int .i64 ((j : Int) + 1) ∧ v = .slice g j c ∧ wr.ownsRow (w1.heap.size + 1) 9 1 (.slice g j c) j ((ks.take j).map fun t => Value.string t.text) ∧ Below (w1.heap.size + 1) (w1.alloc (.cells #[.string ByteArray.empty, .slice (some ⟨b, 0, none⟩) (n + 1) cap] 43)) wr) (fun _ u _ => n + 1 - (intOf u).toNat)
     case atStart => exact ⟨0, 0, _, Nat.zero_le _, rfl, rfl, own_zero (by simp) (by omega), (Below.refl _ _).alloc (by simp) _⟩
     case round =>
      obtain ⟨j, c, g, hj, rfl, rfl, hown, hbel⟩ := hrel
      have HOWN := hid hown
      have hz := hbel.size
      simp at hz
      clear hown
      have kb : Kept w1 wr := ((Kept.refl w1).alloc (Nat.le_refl _) _).below hbel (by omega)
      have e1 := cel (blo (hea w1 (.cells #[.string ByteArray.empty, .slice (some ⟨b, 0, none⟩) (n + 1) cap] 43) w1.heap.size rfl) hbel (by omega))
      by_cases hlt : j < n
      ·have ca := kb.cell (HA.out (j + 1) (by omega))
       have cb := kb.cell (HB.out (j + 1) (by omega))
       obtain ⟨p, hp⟩ : ∃ p, qs[j]? = some p := ⟨_, List.getElem?_eq_getElem (by rw [← HN.out]; exact hlt)⟩
       obtain ⟨tp, htp, hpt⟩ := HG.out j p hp
       have hqp : (q :: qs)[j + 1]? = some p := by simpa using hp
       obtain ⟨x, hx⟩ : ∃ x, p.txt = x := ⟨_, rfl⟩
       have HX := hid hx
       have HXT := hid (show tp.text = x by rw [← txt_ty hpt, hx])
       have HC1 := hid (l1Text_any (HPS.out (j + 1) p hqp) (HWL.out _ _ hqp).1 (HWL.out _ _ hqp).2 wr kb (by omega))
       have HTP := hid htp
       obtain ⟨i0, hi0, hz0, hz1, hz2⟩ := info_parts Tryz.infoStr
       clear hp htp hpt hqp hx kb
       go_wp2_with (first | (at_builtin; refine wpl _ rfl (.tmp 24) (.tmp 31) 22 rfl (w1.heap.size + 1) 9 i0 (.string ByteArray.empty) 1 16 Tryz.underlying22 hi0 hz0 hz1 hz2 rfl (by decide) (.slice g j c) j _ rfl ((ows HOWN.out hb2).alloc _) ⟨w2.heap.size, 0, none⟩ 1 1 [.string x] rfl rfl (cen _ _ _ _ rfl) (by intro u hu; simp at hu; subst hu; rfl) (by decide) (by unfold maxLen; omega) (by omega) (by have := hb2.size; simp; omega) ?_; intro v' w3 hown2 hg2 hw2 hv2; obtain ⟨g2, kc2, rfl⟩ := hv2; have HG2 := hid hg2; have HO := hid hown2; clear hg2 hown2 hw2) | (go_at_call 71; refine HC1.out.mono ?_; rintro e w2 ⟨he2, hb2⟩; rw [HX.out] at he2; subst he2))
       go_roundw
       case rel =>
        refine ⟨j + 1, kc2, some ⟨g2, 0, none⟩, by omega, by go_num, rfl, ?_, ?_⟩
        ·rw [List.take_add_one, HTP.out, List.map_append]; simp only [Option.toList_some, List.map_cons, List.map_nil]; rw [HXT.out]; exact HO.out
        ·have hlo := HOWN.out.lt
         have s2 := hb2.size
         exact ((hbel.trans (hb2.mono (by omega))).alloc (by omega) _).grown HG2.out (by simp; omega) (fun k e => (hlo k e).1)
       case measure => simp [intOf]; omega
      ·have hjn : j = n := by omega
       have HJN := hid hjn
       clear hjn kb
       go_wp2_with fail
       go_ret2
       have hfin := HOWN.out
       rw [HJN.out, List.take_of_length_le (by rw [HKL.out]; exact Nat.le_refl _)] at hfin
       rw [← HKL.out] at hfin
       exact kidsPost_some HKD.out (by rw [HKL.out, HJN.out]) (by omega) (w1 := w1) (own_base hfin (by omega)) ((hb1.alloc s1 _).trans (hbel.mono (by omega)))
theorem lw_good {s : ByteArray} {ty : Ty} (h : readTy s = some ty) : ty.wf = true ∧ ty.atoms ≤ 12 := by
 unfold readTy at h
 split at h
 ·rename_i t _
  split at h
  ·rename_i hc; exact ⟨ty_wf t ty h, by rw [← ty_size t ty h]; exact hc⟩
  ·simp at h
 ·simp at h
theorem lw_data (t : Ty) : t.text.data.toList = t.write := rfl
theorem lw_read {t : Ty} (hw : t.wf = true) (h : t.atoms ≤ 12) : readTy t.text = some t := by
 have hp : parse t.text = some t.tree :=
  parse_back (by rw [lw_data, tyr]) (tree_wk t) (by have := tree_dp t; omega) (by rw [tyr]; have := tyw t; omega)
 unfold readTy
 rw [hp]
 simp only
 rw [tyi, if_pos h, tree_ty t hw]
theorem lw_kid {ty k : Ty} (hw : ty.wf = true) (hk : k ∈ ty.kids) : k.wf = true ∧ k.atoms < ty.atoms := by
 cases ty with
 | bit => simp [Ty.kids] at hk
 | pair a b =>
  simp only [Ty.wf, Bool.and_eq_true] at hw
  simp [Ty.kids] at hk
  rcases hk with rfl | rfl
  ·exact ⟨hw.1.1.1, by rw [Ty.atoms]; omega⟩
  ·exact ⟨hw.1.1.2, by rw [Ty.atoms]; omega⟩
 | thunk c =>
  simp only [Ty.wf, Bool.and_eq_true] at hw
  simp [Ty.kids] at hk
  subst hk
  exact ⟨hw.1, by rw [Ty.atoms]; omega⟩
 | ret a =>
  simp only [Ty.wf, Bool.and_eq_true] at hw
  simp [Ty.kids] at hk
  subst hk
  exact ⟨hw.1, by rw [Ty.atoms]; omega⟩
 | fn a c =>
  simp only [Ty.wf, Bool.and_eq_true] at hw
  simp [Ty.kids] at hk
  rcases hk with rfl | rfl
  ·exact ⟨hw.1.1.1, by rw [Ty.atoms]; omega⟩
  ·exact ⟨hw.1.1.2, by rw [Ty.atoms]; omega⟩
 | choice a c =>
  simp only [Ty.wf, Bool.and_eq_true] at hw
  simp [Ty.kids] at hk
  rcases hk with rfl | rfl
  ·exact ⟨hw.1.1.1, by rw [Ty.atoms]; omega⟩
  ·exact ⟨hw.1.1.2, by rw [Ty.atoms]; omega⟩
theorem lw_kid_read {s : ByteArray} {ty : Ty} (h : readTy s = some ty) {i : Nat} {k : Ty} (hk : ty.kids[i]? = some k) : readTy k.text = some k := by
 obtain ⟨hw, ha⟩ := lw_good h
 have hm := lw_kid hw (List.mem_of_getElem? hk)
 exact lw_read hm.1 (by omega)
theorem lwt {s : ByteArray} {ty : Ty} (h : readTy s = some ty) : s = ty.text := byt (readTy_write h)
def KdPost (L : List Ty) (n : Nat) (d : Bool) (w : World) (e : Ending) (w' : World) : Prop :=
 ∃ q c, e = .returned (.tuple #[.slice q n c, .bool d]) ∧ Vals w' q ((L.map Ty.text).map .string) ∧ (∀ b o, q = some ⟨b, o, none⟩ → b < w'.heap.size) ∧ Below w.heap.size w w'
theorem lw_under {w : World} {base : Nat} {e : TypeId} {q : Option Addr} {n c : Nat} {xs : List Value} (h : w.ownsRow base e 1 (.slice q n c) n xs) : ∀ b o, q = some ⟨b, o, none⟩ → b < w.heap.size := by
 intro b o e
 rcases h.2 with ⟨hv, _⟩ | ⟨g, cap, cur, hv, hbg, hg, _⟩
 ·have : q = none := by simp at hv; exact hv.1
  rw [this] at e; cases e
 ·obtain ⟨rfl, _⟩ : q = some ⟨g, 0, none⟩ ∧ c = cap := by simp at hv; exact hv
  simp at e
  have := lt_of_block hg
  omega
theorem lwk {o : Option Ty} {w w' : World} {e : Ending} (h : KidsPost o w e w') : KdPost (kidsO o) (kidsO o).length o.isSome w e w' := by
 obtain ⟨⟨q, c, rfl, ho⟩, hb⟩ := h
 refine ⟨q, c, rfl, ?_, lw_under ho, hb⟩
 have := vals_any ho
 rw [List.map_map]; exact this
def WantC (s : ByteArray) : Prop := ∀ t, readTy s = some t → t.isVal = false
theorem wantC_of {s : ByteArray} {c : UInt8} {r : List UInt8} (h : s.toList = 40 :: c :: r) (h1 : c ≠ 42) (h2 : c ≠ 117) : WantC s := by
 intro t ht
 have hw := readTy_write ht
 rw [h] at hw
 cases t with
 | bit => rw [Ty.write] at hw; simp at hw
 | pair a b => rw [Ty.write] at hw; simp at hw; exact absurd hw.1 h1
 | thunk c' => rw [Ty.write] at hw; simp at hw; exact absurd hw.1 h2
 | ret a => rfl
 | fn a b => rfl
 | choice a b => rfl
theorem wantC_app (c : UInt8) (l : List UInt8) (s : ByteArray) (h1 : c ≠ 42) (h2 : c ≠ 117) {z : ByteArray} (hz : z.data.toList = 40 :: c :: l) : WantC (z ++ s) := by
 refine wantC_of (r := l ++ s.data.toList) ?_ h1 h2
 rw [Go.ByteArray.toList_eq, ByteArray.data_append, Array.toList_append, hz]; rfl
theorem wantC_kid {s : ByteArray} {ty : Ty} (h : readTy s = some ty) {i : Nat} {k : Ty} (hk : ty.kids[i]? = some k) (hv : k.isVal = false) : WantC k.text := by
 intro t ht
 rw [lw_kid_read h hk] at ht
 simp at ht; subst ht; exact hv
theorem wf_fn {s : ByteArray} {a c : Ty} (h : readTy s = some (.fn a c)) : c.isVal = false := by
 have := (lw_good h).1
 simp [Ty.wf] at this
 exact this.2
theorem wf_choice {s : ByteArray} {a c : Ty} (h : readTy s = some (.choice a c)) : a.isVal = false ∧ c.isVal = false := by
 have := (lw_good h).1
 simp [Ty.wf] at this
 exact ⟨this.1.2, this.2⟩
theorem wf_thunk {s : ByteArray} {c : Ty} (h : readTy s = some (.thunk c)) : c.isVal = false := by
 have := (lw_good h).1
 simp [Ty.wf] at this
 exact this.2
theorem tx_ret (x : Ty) : (Ty.ret x).text.size = x.text.size + 4 := by rw [tex, tex, Ty.write]; simp
theorem tx_thunk (x : Ty) : (Ty.thunk x).text.size = x.text.size + 4 := by rw [tex, tex, Ty.write]; simp
theorem tx_pair (x y : Ty) : (Ty.pair x y).text.size = x.text.size + y.text.size + 5 := by rw [tex, tex, tex, Ty.write]; simp; omega
theorem tx_fn (x y : Ty) : (Ty.fn x y).text.size = x.text.size + y.text.size + 5 := by rw [tex, tex, tex, Ty.write]; simp; omega
theorem tx_choice (x y : Ty) : (Ty.choice x y).text.size = x.text.size + y.text.size + 5 := by rw [tex, tex, tex, Ty.write]; simp; omega
end Go.Proofs.YtfogjomebcponaaGreatDoor
