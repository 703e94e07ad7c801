/- The program's text of a type: typeText, typeTexts. -/
import Derived.Test.YtfogjomebcponaaDoorWrite
import Derived.Test.YtfogjomebcponaaDoorTyTx
import Derived.Test.YtfogjomebcponaaDoorShelf
import Derived.Test.YtfogjomebcponaaDoorTyHead
import Derived.Test.YtfogjomebcponaaDoorTyKids
namespace Go.Proofs.YtfogjomebcponaaDoor
open Go.RowKit

/-- What typeTexts leaves. -/
def TextsPost (l : List Ty) (w : World) (e : Ending) (w' : World) : Prop :=
  (∃ q c, e = .returned (.slice q l.length c) ∧ w'.ownsRow w.heap.size 9 1 (.slice q l.length c) l.length (l.map fun t => Value.string t.text)) ∧ Below w.heap.size w w'

set_option maxRecDepth 100000 in
set_option maxHeartbeats 1000000 in
theorem typeTexts_go (l : List Ty) (p : Option Addr) (n cap : Nat) (w : World) (hn : Hid (l.length = n)) (hnb : n ≤ 20000) (hv : Vals w p (l.map Ty.val))
    (ih : ∀ (i : Nat) (t : Ty), l[i]? = some t → ∀ W, Calls Tryd.prog 41 #[t.val] W fun e w' => e = .returned (.string t.text) ∧ Below W.heap.size W w') :
    Calls Tryd.prog 53 #[.slice p n cap] w (TextsPost l w) := by
  have HV := hid hv
  have HIH := hid ih
  clear hv ih
  go_enter Tryd.func53, Tryd.ntmps53
  go_wp2_with fail
  go_loopw [3, 8] (fun v u wr => ∃ (i c : Nat) (q : Option Addr), i ≤ n ∧ u = .int .i64 (i : Int) ∧ v = .slice q i c ∧ wr.ownsRow w.heap.size 9 1 (.slice q i c) i ((l.take i).map fun t => Value.string t.text) ∧ Below w.heap.size w wr) (fun _ u _ => n - (intOf u).toNat)
  case atStart => exact ⟨0, 0, none, Nat.zero_le _, rfl, rfl, World.ownsRow_nil _ _ _ _, Below.refl _ _⟩
  case round =>
    obtain ⟨i, c, q, hi, rfl, rfl, hown, hbel⟩ := hrel
    have HOWN := hid hown
    have hz := hbel.size
    clear hown
    by_cases hlt : i < n
    · obtain ⟨t, ht⟩ : ∃ t, l[i]? = some t := ⟨_, List.getElem?_eq_getElem (by rw [hn.out]; exact hlt)⟩
      obtain ⟨b, o, rfl, hc⟩ := HV.out i t.val (by simp [ht])
      have hc' := (hbel.cell (p := ⟨b, o + i, none⟩) (World.block_lt_of_cell? w _ hc)).trans hc
      have HC := hid (HIH.out i t ht)
      have HT := hid ht
      obtain ⟨x, hx⟩ : ∃ x, t.text = x := ⟨_, rfl⟩
      have HX := hid hx
      obtain ⟨i0, hi0, hz0, hz1, hz2⟩ := info_parts Tryd.infoStr
      clear hc ht hx
      go_wp2_with (first | (at_builtin; refine wpList_append_at _ rfl (.tmp 12) (.tmp 15) 52 rfl w.heap.size 9 i0 (.string ByteArray.empty) 1 16 Tryd.underlying52 hi0 hz0 hz1 hz2 rfl (by decide) (.slice q i c) i _ rfl ((ownsRow_under HOWN.out hb1).alloc _) ⟨w1.heap.size, 0, none⟩ 1 1 [.string x] rfl rfl (cells_new1 _ _ _ _ rfl) (by intro u hu; simp at hu; subst hu; rfl) (by decide) (by unfold maxLen; omega) (by omega) (by have := hb1.size; simp; omega) ?_; intro v' w2 hown2 hg2 hw2 hv2; obtain ⟨g2, kc2, rfl⟩ := hv2; have HG := hid hg2; have HO := hid hown2; clear hg2 hown2 hw2) | (go_at_call 41; refine (HC.out _).mono ?_; rintro e w1 ⟨he1, hb1⟩; rw [HX.out] at he1; subst he1))
      go_roundw
      case rel =>
        refine ⟨i + 1, kc2, some ⟨g2, 0, none⟩, by omega, by go_num, rfl, ?_, ?_⟩
        · rw [List.take_add_one, HT.out, List.map_append]; simp only [Option.toList_some, List.map_cons, List.map_nil]; rw [HX.out]; exact HO.out
        · have hlo := HOWN.out.lt
          have s1 := hb1.size
          exact ((hbel.trans (hb1.mono hz)).alloc (by omega) _).grown HG.out (by simp; omega) (fun k e => (hlo k e).1)
      case measure => simp [intOf]; omega
    · have hin : i = n := by omega
      have HI := hid hin
      clear hin
      go_wp2_with fail
      go_ret
      refine ⟨⟨q, c, ?_, ?_⟩, hbel⟩
      · rw [hn.out, ← HI.out]; rfl
      · have := HOWN.out
        rw [HI.out, List.take_of_length_le (Nat.le_of_eq hn.out)] at this
        rw [hn.out]; exact this

theorem own_slice {w : World} {base : Nat} {e : TypeId} {q : Option Addr} {n c : Nat} {xs : List Value} (h : w.ownsRow base e 1 (.slice q n c) n xs) (h0 : 0 < n) :
    ∃ g, q = some ⟨g, 0, none⟩ ∧ n ≤ c ∧ base ≤ g ∧ g < w.heap.size ∧ ∀ j v, xs[j]? = some v → w.cell? ⟨g, 0 + j, none⟩ = some v := by
  rcases h.2 with ⟨_, hn⟩ | ⟨g, cap, cur, hv, hbg, hg, hnc, _⟩
  · omega
  · obtain ⟨rfl, rfl⟩ : q = some ⟨g, 0, none⟩ ∧ c = cap := by simp at hv; exact hv
    refine ⟨g, rfl, hnc, hbg, lt_of_block hg, fun j v hj => ?_⟩
    have hc := h.cells (g := g) rfl j v hj
    have hadd : (⟨g, 0, none⟩ : Addr).add j = ⟨g, 0 + j, none⟩ := by unfold Addr.add; split <;> simp_all
    rw [← hadd]; exact hc
theorem str_get {l : List Ty} {j : Nat} {x : ByteArray} (hj : (l.map Ty.text)[j]? = some x) : (l.map fun t => Value.string t.text)[j]? = some (.string x) := by
  rw [List.getElem?_map] at hj ⊢
  cases h : l[j]? with
  | none => rw [h] at hj; simp at hj
  | some t => rw [h] at hj; simp at hj; subst hj; rfl
theorem join_two (x y : Ty) : Lib.join ([x.text, y.text].map (·.data.toList)) ({ data := #[32] } : ByteArray).data.toList = x.write ++ 32 :: y.write := by
  rw [List.map_cons, Lib.join_cons]; simp [Lib.joinTail, Ty.text]
theorem join_one' (x : Ty) : Lib.join ([x.text].map (·.data.toList)) ({ data := #[32] } : ByteArray).data.toList = x.write := by
  rw [List.map_cons, List.map_nil, Lib.join_one]; simp [Ty.text]
theorem text_eq {J : ByteArray} {h : UInt8} {L : List UInt8} {t : Ty} (hJ : J = ⟨L.toArray⟩) (ht : t.write = 40 :: h :: 32 :: (L ++ [41])) :
    ((((({ data := #[40] } : ByteArray) ++ ({ data := #[h] } : ByteArray)) ++ ({ data := #[32] } : ByteArray)) ++ J) ++ ({ data := #[41] } : ByteArray)) = t.text := by
  have hh : ({ data := #[h] } : ByteArray).toList = [h] := by rw [Go.ByteArray.toList_eq]
  have h1 : ({ data := #[40] } : ByteArray).toList = [40] := by rw [Go.ByteArray.toList_eq]
  have h2 : ({ data := #[41] } : ByteArray).toList = [41] := by rw [Go.ByteArray.toList_eq]
  have h3 : J.toList = L := by rw [Go.ByteArray.toList_eq, hJ]
  have := bytes_of_toList (a := (((({ data := #[40] } : ByteArray) ++ ({ data := #[h] } : ByteArray)) ++ ({ data := #[32] } : ByteArray)) ++ J) ++ ({ data := #[41] } : ByteArray)) (l := t.write) (by rw [append_toList, append_toList, append_toList, append_toList, hh, h1, h2, h3, space_toList, ht]; simp)
  rw [this]; rfl

set_option maxRecDepth 100000 in
set_option maxHeartbeats 1000000 in
theorem typeText_pair (x y : Ty) (hsz : (Ty.pair x y).write.length ≤ 20000) (ihx : ∀ W, Calls Tryd.prog 41 #[x.val] W fun e w' => e = .returned (.string x.text) ∧ Below W.heap.size W w') (ihy : ∀ W, Calls Tryd.prog 41 #[y.val] W fun e w' => e = .returned (.string y.text) ∧ Below W.heap.size W w') (w : World) :
    Calls Tryd.prog 41 #[(Ty.pair x y).val] w fun e w' => e = .returned (.string (Ty.pair x y).text) ∧ Below w.heap.size w w' := by
  have IHx := hid ihx
  have IHy := hid ihy
  have HSZ := hid hsz
  have mk1 := m_kids_pair x.val y.val
  have mk2 := m_head_pair x.val y.val
  have HT := hid (fun (p : Option Addr) W (hv : Vals W p ([x, y].map Ty.val)) => typeTexts_go [x, y] p 2 2 W rfl (by decide) hv (by intro i t ht; match i, ht with | 0, ht => simp at ht; subst ht; exact IHx.out | 1, ht => simp at ht; subst ht; exact IHy.out))
  have hjl : (x.write ++ 32 :: y.write).length ≤ 20000 := by simp [Ty.write] at hsz ⊢; omega
  have HJL := hid hjl
  have HN := hid (show ([x.text, y.text] : List ByteArray).length ≤ 140737488355328 by simp)
  have HJB := hid (show (Lib.join ([x.text, y.text].map (·.data.toList)) ({ data := #[32] } : ByteArray).data.toList).length ≤ 140737488355328 by rw [join_two x y]; omega)
  clear hsz hjl ihx ihy
  simp only [Ty.val]
  go_enter Tryd.func41, Tryd.ntmps41
  go_wp2_with (first | (go_at_call 117; refine (kids_pair x y _).mono ?_; rintro e w1 ⟨b, rfl, hb0, hb1⟩; have HV := hid (vals_two hb0)) | (go_at_call 116; refine (head_pair _ _ _).mono ?_; rintro e w2 ⟨rfl, hb2⟩) | (go_at_call 53; refine (HT.out _ _ ((HV.out).kept (Kept.of_below hb2 (Nat.le_refl _)))).mono ?_; rintro e w3 ⟨⟨q, c, rfl, hown⟩, hb3⟩; obtain ⟨g, rfl, hnc, hbg, hgl, hcl⟩ := own_slice hown (Nat.succ_pos _); have HC := hid hcl; clear hown hcl) | (go_at_call 52; refine (Tryd.strings_Join g 0 c [x.text, y.text] ({ data := #[32] } : ByteArray) _ (fun j z hj => HC.out j (.string z) (str_get (l := [x, y]) hj)) hgl HN.out hnc HJB.out).mono ?_; rintro e w4 ⟨he4, hb4⟩; obtain ⟨J, hJ⟩ : ∃ J, J = ({ data := (Lib.join ([x.text, y.text].map (·.data.toList)) ({ data := #[32] } : ByteArray).data.toList).toArray } : ByteArray) := ⟨_, rfl⟩; rw [← hJ] at he4; subst he4; rw [join_two x y] at hJ; have hJs : J.size ≤ 20000 := (by rw [hJ]; simpa [ByteArray.size] using HJL.out); have HJ := hid hJ; clear hJ))
  go_ret
  refine ⟨ret_str (text_eq HJ.out (by simp [Ty.write])), ?_⟩
  exact (hb1.trans (hb2.mono hb1.size)).trans ((hb3.mono (by have := hb1.size; have := hb2.size; omega)).trans (hb4.mono (by have := hb1.size; have := hb2.size; have := hb3.size; omega)))

set_option maxRecDepth 100000 in
set_option maxHeartbeats 1000000 in
theorem typeText_thunk (x : Ty) (hsz : (Ty.thunk x).write.length ≤ 20000) (ihx : ∀ W, Calls Tryd.prog 41 #[x.val] W fun e w' => e = .returned (.string x.text) ∧ Below W.heap.size W w') (w : World) :
    Calls Tryd.prog 41 #[(Ty.thunk x).val] w fun e w' => e = .returned (.string (Ty.thunk x).text) ∧ Below w.heap.size w w' := by
  have IHx := hid ihx
  have HSZ := hid hsz
  have mk1 := m_kids_thunk x.val
  have mk2 := m_head_thunk x.val
  have HT := hid (fun (p : Option Addr) W (hv : Vals W p ([x].map Ty.val)) => typeTexts_go [x] p 1 1 W rfl (by decide) hv (by intro i t ht; match i, ht with | 0, ht => simp at ht; subst ht; exact IHx.out))
  have hjl : (x.write).length ≤ 20000 := by simp [Ty.write] at hsz ⊢; omega
  have HJL := hid hjl
  have HN := hid (show ([x.text] : List ByteArray).length ≤ 140737488355328 by simp)
  have HJB := hid (show (Lib.join ([x.text].map (·.data.toList)) ({ data := #[32] } : ByteArray).data.toList).length ≤ 140737488355328 by rw [join_one' x]; omega)
  clear hsz hjl ihx
  simp only [Ty.val]
  go_enter Tryd.func41, Tryd.ntmps41
  go_wp2_with (first | (go_at_call 121; refine (kids_thunk x _).mono ?_; rintro e w1 ⟨b, rfl, hb0, hb1⟩; have HV := hid (vals_one hb0)) | (go_at_call 120; refine (head_thunk _ _).mono ?_; rintro e w2 ⟨rfl, hb2⟩) | (go_at_call 53; refine (HT.out _ _ ((HV.out).kept (Kept.of_below hb2 (Nat.le_refl _)))).mono ?_; rintro e w3 ⟨⟨q, c, rfl, hown⟩, hb3⟩; obtain ⟨g, rfl, hnc, hbg, hgl, hcl⟩ := own_slice hown (Nat.succ_pos _); have HC := hid hcl; clear hown hcl) | (go_at_call 52; refine (Tryd.strings_Join g 0 c [x.text] ({ data := #[32] } : ByteArray) _ (fun j z hj => HC.out j (.string z) (str_get (l := [x]) hj)) hgl HN.out hnc HJB.out).mono ?_; rintro e w4 ⟨he4, hb4⟩; obtain ⟨J, hJ⟩ : ∃ J, J = ({ data := (Lib.join ([x.text].map (·.data.toList)) ({ data := #[32] } : ByteArray).data.toList).toArray } : ByteArray) := ⟨_, rfl⟩; rw [← hJ] at he4; subst he4; rw [join_one' x] at hJ; have hJs : J.size ≤ 20000 := (by rw [hJ]; simpa [ByteArray.size] using HJL.out); have HJ := hid hJ; clear hJ))
  go_ret
  refine ⟨ret_str (text_eq HJ.out (by simp [Ty.write])), ?_⟩
  exact (hb1.trans (hb2.mono hb1.size)).trans ((hb3.mono (by have := hb1.size; have := hb2.size; omega)).trans (hb4.mono (by have := hb1.size; have := hb2.size; have := hb3.size; omega)))

set_option maxRecDepth 100000 in
set_option maxHeartbeats 1000000 in
theorem typeText_ret (x : Ty) (hsz : (Ty.ret x).write.length ≤ 20000) (ihx : ∀ W, Calls Tryd.prog 41 #[x.val] W fun e w' => e = .returned (.string x.text) ∧ Below W.heap.size W w') (w : World) :
    Calls Tryd.prog 41 #[(Ty.ret x).val] w fun e w' => e = .returned (.string (Ty.ret x).text) ∧ Below w.heap.size w w' := by
  have IHx := hid ihx
  have HSZ := hid hsz
  have mk1 := m_kids_ret x.val
  have mk2 := m_head_ret x.val
  have HT := hid (fun (p : Option Addr) W (hv : Vals W p ([x].map Ty.val)) => typeTexts_go [x] p 1 1 W rfl (by decide) hv (by intro i t ht; match i, ht with | 0, ht => simp at ht; subst ht; exact IHx.out))
  have hjl : (x.write).length ≤ 20000 := by simp [Ty.write] at hsz ⊢; omega
  have HJL := hid hjl
  have HN := hid (show ([x.text] : List ByteArray).length ≤ 140737488355328 by simp)
  have HJB := hid (show (Lib.join ([x.text].map (·.data.toList)) ({ data := #[32] } : ByteArray).data.toList).length ≤ 140737488355328 by rw [join_one' x]; omega)
  clear hsz hjl ihx
  simp only [Ty.val]
  go_enter Tryd.func41, Tryd.ntmps41
  go_wp2_with (first | (go_at_call 125; refine (kids_ret x _).mono ?_; rintro e w1 ⟨b, rfl, hb0, hb1⟩; have HV := hid (vals_one hb0)) | (go_at_call 124; refine (head_ret _ _).mono ?_; rintro e w2 ⟨rfl, hb2⟩) | (go_at_call 53; refine (HT.out _ _ ((HV.out).kept (Kept.of_below hb2 (Nat.le_refl _)))).mono ?_; rintro e w3 ⟨⟨q, c, rfl, hown⟩, hb3⟩; obtain ⟨g, rfl, hnc, hbg, hgl, hcl⟩ := own_slice hown (Nat.succ_pos _); have HC := hid hcl; clear hown hcl) | (go_at_call 52; refine (Tryd.strings_Join g 0 c [x.text] ({ data := #[32] } : ByteArray) _ (fun j z hj => HC.out j (.string z) (str_get (l := [x]) hj)) hgl HN.out hnc HJB.out).mono ?_; rintro e w4 ⟨he4, hb4⟩; obtain ⟨J, hJ⟩ : ∃ J, J = ({ data := (Lib.join ([x.text].map (·.data.toList)) ({ data := #[32] } : ByteArray).data.toList).toArray } : ByteArray) := ⟨_, rfl⟩; rw [← hJ] at he4; subst he4; rw [join_one' x] at hJ; have hJs : J.size ≤ 20000 := (by rw [hJ]; simpa [ByteArray.size] using HJL.out); have HJ := hid hJ; clear hJ))
  go_ret
  refine ⟨ret_str (text_eq HJ.out (by simp [Ty.write])), ?_⟩
  exact (hb1.trans (hb2.mono hb1.size)).trans ((hb3.mono (by have := hb1.size; have := hb2.size; omega)).trans (hb4.mono (by have := hb1.size; have := hb2.size; have := hb3.size; omega)))

set_option maxRecDepth 100000 in
set_option maxHeartbeats 1000000 in
theorem typeText_fn (x y : Ty) (hsz : (Ty.fn x y).write.length ≤ 20000) (ihx : ∀ W, Calls Tryd.prog 41 #[x.val] W fun e w' => e = .returned (.string x.text) ∧ Below W.heap.size W w') (ihy : ∀ W, Calls Tryd.prog 41 #[y.val] W fun e w' => e = .returned (.string y.text) ∧ Below W.heap.size W w') (w : World) :
    Calls Tryd.prog 41 #[(Ty.fn x y).val] w fun e w' => e = .returned (.string (Ty.fn x y).text) ∧ Below w.heap.size w w' := by
  have IHx := hid ihx
  have IHy := hid ihy
  have HSZ := hid hsz
  have mk1 := m_kids_fn x.val y.val
  have mk2 := m_head_fn x.val y.val
  have HT := hid (fun (p : Option Addr) W (hv : Vals W p ([x, y].map Ty.val)) => typeTexts_go [x, y] p 2 2 W rfl (by decide) hv (by intro i t ht; match i, ht with | 0, ht => simp at ht; subst ht; exact IHx.out | 1, ht => simp at ht; subst ht; exact IHy.out))
  have hjl : (x.write ++ 32 :: y.write).length ≤ 20000 := by simp [Ty.write] at hsz ⊢; omega
  have HJL := hid hjl
  have HN := hid (show ([x.text, y.text] : List ByteArray).length ≤ 140737488355328 by simp)
  have HJB := hid (show (Lib.join ([x.text, y.text].map (·.data.toList)) ({ data := #[32] } : ByteArray).data.toList).length ≤ 140737488355328 by rw [join_two x y]; omega)
  clear hsz hjl ihx ihy
  simp only [Ty.val]
  go_enter Tryd.func41, Tryd.ntmps41
  go_wp2_with (first | (go_at_call 129; refine (kids_fn x y _).mono ?_; rintro e w1 ⟨b, rfl, hb0, hb1⟩; have HV := hid (vals_two hb0)) | (go_at_call 128; refine (head_fn _ _ _).mono ?_; rintro e w2 ⟨rfl, hb2⟩) | (go_at_call 53; refine (HT.out _ _ ((HV.out).kept (Kept.of_below hb2 (Nat.le_refl _)))).mono ?_; rintro e w3 ⟨⟨q, c, rfl, hown⟩, hb3⟩; obtain ⟨g, rfl, hnc, hbg, hgl, hcl⟩ := own_slice hown (Nat.succ_pos _); have HC := hid hcl; clear hown hcl) | (go_at_call 52; refine (Tryd.strings_Join g 0 c [x.text, y.text] ({ data := #[32] } : ByteArray) _ (fun j z hj => HC.out j (.string z) (str_get (l := [x, y]) hj)) hgl HN.out hnc HJB.out).mono ?_; rintro e w4 ⟨he4, hb4⟩; obtain ⟨J, hJ⟩ : ∃ J, J = ({ data := (Lib.join ([x.text, y.text].map (·.data.toList)) ({ data := #[32] } : ByteArray).data.toList).toArray } : ByteArray) := ⟨_, rfl⟩; rw [← hJ] at he4; subst he4; rw [join_two x y] at hJ; have hJs : J.size ≤ 20000 := (by rw [hJ]; simpa [ByteArray.size] using HJL.out); have HJ := hid hJ; clear hJ))
  go_ret
  refine ⟨ret_str (text_eq HJ.out (by simp [Ty.write])), ?_⟩
  exact (hb1.trans (hb2.mono hb1.size)).trans ((hb3.mono (by have := hb1.size; have := hb2.size; omega)).trans (hb4.mono (by have := hb1.size; have := hb2.size; have := hb3.size; omega)))

set_option maxRecDepth 100000 in
set_option maxHeartbeats 1000000 in
theorem typeText_choice (x y : Ty) (hsz : (Ty.choice x y).write.length ≤ 20000) (ihx : ∀ W, Calls Tryd.prog 41 #[x.val] W fun e w' => e = .returned (.string x.text) ∧ Below W.heap.size W w') (ihy : ∀ W, Calls Tryd.prog 41 #[y.val] W fun e w' => e = .returned (.string y.text) ∧ Below W.heap.size W w') (w : World) :
    Calls Tryd.prog 41 #[(Ty.choice x y).val] w fun e w' => e = .returned (.string (Ty.choice x y).text) ∧ Below w.heap.size w w' := by
  have IHx := hid ihx
  have IHy := hid ihy
  have HSZ := hid hsz
  have mk1 := m_kids_choice x.val y.val
  have mk2 := m_head_choice x.val y.val
  have HT := hid (fun (p : Option Addr) W (hv : Vals W p ([x, y].map Ty.val)) => typeTexts_go [x, y] p 2 2 W rfl (by decide) hv (by intro i t ht; match i, ht with | 0, ht => simp at ht; subst ht; exact IHx.out | 1, ht => simp at ht; subst ht; exact IHy.out))
  have hjl : (x.write ++ 32 :: y.write).length ≤ 20000 := by simp [Ty.write] at hsz ⊢; omega
  have HJL := hid hjl
  have HN := hid (show ([x.text, y.text] : List ByteArray).length ≤ 140737488355328 by simp)
  have HJB := hid (show (Lib.join ([x.text, y.text].map (·.data.toList)) ({ data := #[32] } : ByteArray).data.toList).length ≤ 140737488355328 by rw [join_two x y]; omega)
  clear hsz hjl ihx ihy
  simp only [Ty.val]
  go_enter Tryd.func41, Tryd.ntmps41
  go_wp2_with (first | (go_at_call 133; refine (kids_choice x y _).mono ?_; rintro e w1 ⟨b, rfl, hb0, hb1⟩; have HV := hid (vals_two hb0)) | (go_at_call 132; refine (head_choice _ _ _).mono ?_; rintro e w2 ⟨rfl, hb2⟩) | (go_at_call 53; refine (HT.out _ _ ((HV.out).kept (Kept.of_below hb2 (Nat.le_refl _)))).mono ?_; rintro e w3 ⟨⟨q, c, rfl, hown⟩, hb3⟩; obtain ⟨g, rfl, hnc, hbg, hgl, hcl⟩ := own_slice hown (Nat.succ_pos _); have HC := hid hcl; clear hown hcl) | (go_at_call 52; refine (Tryd.strings_Join g 0 c [x.text, y.text] ({ data := #[32] } : ByteArray) _ (fun j z hj => HC.out j (.string z) (str_get (l := [x, y]) hj)) hgl HN.out hnc HJB.out).mono ?_; rintro e w4 ⟨he4, hb4⟩; obtain ⟨J, hJ⟩ : ∃ J, J = ({ data := (Lib.join ([x.text, y.text].map (·.data.toList)) ({ data := #[32] } : ByteArray).data.toList).toArray } : ByteArray) := ⟨_, rfl⟩; rw [← hJ] at he4; subst he4; rw [join_two x y] at hJ; have hJs : J.size ≤ 20000 := (by rw [hJ]; simpa [ByteArray.size] using HJL.out); have HJ := hid hJ; clear hJ))
  go_ret
  refine ⟨ret_str (text_eq HJ.out (by simp [Ty.write])), ?_⟩
  exact (hb1.trans (hb2.mono hb1.size)).trans ((hb3.mono (by have := hb1.size; have := hb2.size; omega)).trans (hb4.mono (by have := hb1.size; have := hb2.size; have := hb3.size; omega)))

/-- THE PROGRAM's TEXT OF A TYPE. -/
theorem typeText_big : ∀ (t : Ty), t.write.length ≤ 20000 → ∀ w, Calls Tryd.prog 41 #[t.val] w fun e w' => e = .returned (.string t.text) ∧ Below w.heap.size w w'
  | .bit, _, w => by
    have mk1 := m_kids_bit
    have mk2 := m_head_bit
    simp only [Ty.val]
    go_enter Tryd.func41, Tryd.ntmps41
    go_wp2_with (first | (go_at_call 138; refine (kids_bit _).mono ?_; rintro e w1 ⟨rfl, hb1⟩) | (go_at_call 137; refine (head_bit _).mono ?_; rintro e w2 ⟨rfl, hb2⟩))
    go_ret
    exact ⟨rfl, hb1.trans (hb2.mono hb1.size)⟩
  | .pair x y, h, w => typeText_pair x y h (fun W => typeText_big x (by simp [Ty.write] at h; omega) W) (fun W => typeText_big y (by simp [Ty.write] at h; omega) W) w
  | .thunk x, h, w => typeText_thunk x h (fun W => typeText_big x (by simp [Ty.write] at h; omega) W) w
  | .ret x, h, w => typeText_ret x h (fun W => typeText_big x (by simp [Ty.write] at h; omega) W) w
  | .fn x y, h, w => typeText_fn x y h (fun W => typeText_big x (by simp [Ty.write] at h; omega) W) (fun W => typeText_big y (by simp [Ty.write] at h; omega) W) w
  | .choice x y, h, w => typeText_choice x y h (fun W => typeText_big x (by simp [Ty.write] at h; omega) W) (fun W => typeText_big y (by simp [Ty.write] at h; omega) W) w
theorem typeText_any (t : Ty) (h : t.write.length ≤ 12000) (w : World) : Calls Tryd.prog 41 #[t.val] w fun e w' => e = .returned (.string t.text) ∧ Below w.heap.size w w' := typeText_big t (by omega) w
end Go.Proofs.YtfogjomebcponaaDoor
