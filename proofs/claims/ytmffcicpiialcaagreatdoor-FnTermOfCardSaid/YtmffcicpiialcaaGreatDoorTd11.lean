/- Merged: Texts, KidsP, Text. -/
import Derived.Test.YtmffcicpiialcaaGreatDoorShelf
import Derived.Test.YtmffcicpiialcaaGreatDoorTd9
namespace Go.Proofs.YtmffcicpiialcaaGreatDoor
open Go.RowKit

/-- A type's text. -/
def Ty.text (t : Ty) : ByteArray := ⟨t.write.toArray⟩
theorem text_toList (t : Ty) : t.text.toList = t.write := by rw [Go.ByteArray.toList_eq]; rfl
theorem text_size (t : Ty) : t.text.size = t.write.length := by unfold Ty.text; simp [ByteArray.size]
/-- What typeTexts leaves. -/
def TextsPost (l : List Ty) (w : World) (e : Ending) (w' : World) : Prop :=
  (∃ q c, e = .returned (.slice q l.length c) ∧ w'.ownsRow w.heap.size 9 1 (.slice q l.length c) l.length (l.map fun t => Value.string t.text)) ∧ Below w.heap.size w w'

set_option maxRecDepth 100000 in
set_option maxHeartbeats 1000000 in
theorem typeTexts_go (l : List Ty) (p : Option Addr) (n cap : Nat) (w : World) (hn : Hid (l.length = n)) (hnb : n ≤ 20000) (hv : Vals w p (l.map Ty.val))
    (ih : ∀ (i : Nat) (t : Ty), l[i]? = some t → ∀ W, Calls Tryz.prog 20 #[t.val] W fun e w' => e = .returned (.string t.text) ∧ Below W.heap.size W w') :
    Calls Tryz.prog 39 #[.slice p n cap] w (TextsPost l w) := by
  have HV := hid hv
  have HIH := hid ih
  clear hv ih
  go_enter Tryz.func39, Tryz.ntmps39
  go_wp2_with fail
  go_loopw [3, 8] (fun v u wr => ∃ (i c : Nat) (q : Option Addr), i ≤ n ∧ u = .int .i64 (i : Int) ∧ v = .slice q i c ∧ wr.ownsRow w.heap.size 9 1 (.slice q i c) i ((l.take i).map fun t => Value.string t.text) ∧ Below w.heap.size w wr) (fun _ u _ => n - (intOf u).toNat)
  case atStart => exact ⟨0, 0, none, Nat.zero_le _, rfl, rfl, World.ownsRow_nil _ _ _ _, Below.refl _ _⟩
  case round =>
    obtain ⟨i, c, q, hi, rfl, rfl, hown, hbel⟩ := hrel
    have HOWN := hid hown
    have hz := hbel.size
    clear hown
    by_cases hlt : i < n
    · obtain ⟨t, ht⟩ : ∃ t, l[i]? = some t := ⟨_, List.getElem?_eq_getElem (by rw [hn.out]; exact hlt)⟩
      obtain ⟨b, o, rfl, hc⟩ := HV.out i t.val (by simp [ht])
      have hc' := (hbel.cell (p := ⟨b, o + i, none⟩) (World.block_lt_of_cell? w _ hc)).trans hc
      have HC := hid (HIH.out i t ht)
      have HT := hid ht
      obtain ⟨x, hx⟩ : ∃ x, t.text = x := ⟨_, rfl⟩
      have HX := hid hx
      obtain ⟨i0, hi0, hz0, hz1, hz2⟩ := info_parts Tryz.infoStr
      clear hc ht hx
      go_wp2_with (first | (at_builtin; refine wpList_append_at _ rfl (.tmp 12) (.tmp 15) 27 rfl w.heap.size 9 i0 (.string ByteArray.empty) 1 16 Tryz.underlying27 hi0 hz0 hz1 hz2 rfl (by decide) (.slice q i c) i _ rfl ((ownsRow_under HOWN.out hb1).alloc _) ⟨w1.heap.size, 0, none⟩ 1 1 [.string x] rfl rfl (cells_new1 _ _ _ _ rfl) (by intro u hu; simp at hu; subst hu; rfl) (by decide) (by unfold maxLen; omega) (by omega) (by have := hb1.size; simp; omega) ?_; intro v' w2 hown2 hg2 hw2 hv2; obtain ⟨g2, kc2, rfl⟩ := hv2; have HG := hid hg2; have HO := hid hown2; clear hg2 hown2 hw2) | (go_at_call 20; refine (HC.out _).mono ?_; rintro e w1 ⟨he1, hb1⟩; rw [HX.out] at he1; subst he1))
      go_roundw
      case rel =>
        refine ⟨i + 1, kc2, some ⟨g2, 0, none⟩, by omega, by go_num, rfl, ?_, ?_⟩
        · rw [List.take_add_one, HT.out, List.map_append]; simp only [Option.toList_some, List.map_cons, List.map_nil]; rw [HX.out]; exact HO.out
        · have hlo := HOWN.out.lt
          have s1 := hb1.size
          exact ((hbel.trans (hb1.mono hz)).alloc (by omega) _).grown HG.out (by simp; omega) (fun k e => (hlo k e).1)
      case measure => simp [intOf]; omega
    · have hin : i = n := by omega
      have HI := hid hin
      clear hin
      go_wp2_with fail
      go_ret
      refine ⟨⟨q, c, ?_, ?_⟩, hbel⟩
      · rw [hn.out, ← HI.out]; rfl
      · have := HOWN.out
        rw [HI.out, List.take_of_length_le (Nat.le_of_eq hn.out)] at this
        rw [hn.out]; exact this

theorem own_slice {w : World} {base : Nat} {e : TypeId} {q : Option Addr} {n c : Nat} {xs : List Value} (h : w.ownsRow base e 1 (.slice q n c) n xs) (h0 : 0 < n) :
    ∃ g, q = some ⟨g, 0, none⟩ ∧ n ≤ c ∧ base ≤ g ∧ g < w.heap.size ∧ ∀ j v, xs[j]? = some v → w.cell? ⟨g, 0 + j, none⟩ = some v := by
  rcases h.2 with ⟨_, hn⟩ | ⟨g, cap, cur, hv, hbg, hg, hnc, _⟩
  · omega
  · obtain ⟨rfl, rfl⟩ : q = some ⟨g, 0, none⟩ ∧ c = cap := by simp at hv; exact hv
    refine ⟨g, rfl, hnc, hbg, lt_of_block hg, fun j v hj => ?_⟩
    have hc := h.cells (g := g) rfl j v hj
    have hadd : (⟨g, 0, none⟩ : Addr).add j = ⟨g, 0 + j, none⟩ := by unfold Addr.add; split <;> simp_all
    rw [← hadd]; exact hc
theorem str_get {l : List Ty} {j : Nat} {x : ByteArray} (hj : (l.map Ty.text)[j]? = some x) : (l.map fun t => Value.string t.text)[j]? = some (.string x) := by
  rw [List.getElem?_map] at hj ⊢
  cases h : l[j]? with
  | none => rw [h] at hj; simp at hj
  | some t => rw [h] at hj; simp at hj; subst hj; rfl
theorem join_two (x y : Ty) : Lib.join ([x.text, y.text].map (·.data.toList)) ({ data := #[32] } : ByteArray).data.toList = x.write ++ 32 :: y.write := by
  rw [List.map_cons, Lib.join_cons]; simp [Lib.joinTail, Ty.text]
theorem join_one' (x : Ty) : Lib.join ([x.text].map (·.data.toList)) ({ data := #[32] } : ByteArray).data.toList = x.write := by
  rw [List.map_cons, List.map_nil, Lib.join_one]; simp [Ty.text]
theorem text_eq {J : ByteArray} {h : UInt8} {L : List UInt8} {t : Ty} (hJ : J = ⟨L.toArray⟩) (ht : t.write = 40 :: h :: 32 :: (L ++ [41])) :
    ((((({ data := #[40] } : ByteArray) ++ ({ data := #[h] } : ByteArray)) ++ ({ data := #[32] } : ByteArray)) ++ J) ++ ({ data := #[41] } : ByteArray)) = t.text := by
  have hh : ({ data := #[h] } : ByteArray).toList = [h] := by rw [Go.ByteArray.toList_eq]
  have h1 : ({ data := #[40] } : ByteArray).toList = [40] := by rw [Go.ByteArray.toList_eq]
  have h2 : ({ data := #[41] } : ByteArray).toList = [41] := by rw [Go.ByteArray.toList_eq]
  have h3 : J.toList = L := by rw [Go.ByteArray.toList_eq, hJ]
  have := bytes_of_toList (a := (((({ data := #[40] } : ByteArray) ++ ({ data := #[h] } : ByteArray)) ++ ({ data := #[32] } : ByteArray)) ++ J) ++ ({ data := #[41] } : ByteArray)) (l := t.write) (by rw [append_toList, append_toList, append_toList, append_toList, hh, h1, h2, h3, space_toList, ht]; simp)
  rw [this]; rfl

set_option maxRecDepth 100000 in
set_option maxHeartbeats 1000000 in
theorem typeText_pair (x y : Ty) (hsz : (Ty.pair x y).write.length ≤ 20000) (ihx : ∀ W, Calls Tryz.prog 20 #[x.val] W fun e w' => e = .returned (.string x.text) ∧ Below W.heap.size W w') (ihy : ∀ W, Calls Tryz.prog 20 #[y.val] W fun e w' => e = .returned (.string y.text) ∧ Below W.heap.size W w') (w : World) :
    Calls Tryz.prog 20 #[(Ty.pair x y).val] w fun e w' => e = .returned (.string (Ty.pair x y).text) ∧ Below w.heap.size w w' := by
  have IHx := hid ihx
  have IHy := hid ihy
  have HSZ := hid hsz
  have mk1 := m_kids_pair x.val y.val
  have mk2 := m_head_pair x.val y.val
  have HT := hid (fun (p : Option Addr) W (hv : Vals W p ([x, y].map Ty.val)) => typeTexts_go [x, y] p 2 2 W rfl (by decide) hv (by intro i t ht; match i, ht with | 0, ht => simp at ht; subst ht; exact IHx.out | 1, ht => simp at ht; subst ht; exact IHy.out))
  have hjl : (x.write ++ 32 :: y.write).length ≤ 20000 := by simp [Ty.write] at hsz ⊢; omega
  have HJL := hid hjl
  have HN := hid (show ([x.text, y.text] : List ByteArray).length ≤ 140737488355328 by simp)
  have HJB := hid (show (Lib.join ([x.text, y.text].map (·.data.toList)) ({ data := #[32] } : ByteArray).data.toList).length ≤ 140737488355328 by rw [join_two x y]; omega)
  clear hsz hjl ihx ihy
  simp only [Ty.val]
  go_enter Tryz.func20, Tryz.ntmps20
  go_wp2_with (first | (go_at_call 127; refine (kids_pair x y _).mono ?_; rintro e w1 ⟨b, rfl, hb0, hb1⟩; have HV := hid (vals_two hb0)) | (go_at_call 126; refine (head_pair _ _ _).mono ?_; rintro e w2 ⟨rfl, hb2⟩) | (go_at_call 39; refine (HT.out _ _ ((HV.out).kept (Kept.of_below hb2 (Nat.le_refl _)))).mono ?_; rintro e w3 ⟨⟨q, c, rfl, hown⟩, hb3⟩; obtain ⟨g, rfl, hnc, hbg, hgl, hcl⟩ := own_slice hown (Nat.succ_pos _); have HC := hid hcl; clear hown hcl) | (go_at_call 38; refine (Tryz.strings_Join g 0 c [x.text, y.text] ({ data := #[32] } : ByteArray) _ (fun j z hj => HC.out j (.string z) (str_get (l := [x, y]) hj)) hgl HN.out hnc HJB.out).mono ?_; rintro e w4 ⟨he4, hb4⟩; obtain ⟨J, hJ⟩ : ∃ J, J = ({ data := (Lib.join ([x.text, y.text].map (·.data.toList)) ({ data := #[32] } : ByteArray).data.toList).toArray } : ByteArray) := ⟨_, rfl⟩; rw [← hJ] at he4; subst he4; rw [join_two x y] at hJ; have hJs : J.size ≤ 20000 := (by rw [hJ]; simpa [ByteArray.size] using HJL.out); have HJ := hid hJ; clear hJ))
  go_ret
  refine ⟨ret_str (text_eq HJ.out (by simp [Ty.write])), ?_⟩
  exact (hb1.trans (hb2.mono hb1.size)).trans ((hb3.mono (by have := hb1.size; have := hb2.size; omega)).trans (hb4.mono (by have := hb1.size; have := hb2.size; have := hb3.size; omega)))

set_option maxRecDepth 100000 in
set_option maxHeartbeats 1000000 in
theorem typeText_thunk (x : Ty) (hsz : (Ty.thunk x).write.length ≤ 20000) (ihx : ∀ W, Calls Tryz.prog 20 #[x.val] W fun e w' => e = .returned (.string x.text) ∧ Below W.heap.size W w') (w : World) :
    Calls Tryz.prog 20 #[(Ty.thunk x).val] w fun e w' => e = .returned (.string (Ty.thunk x).text) ∧ Below w.heap.size w w' := by
  have IHx := hid ihx
  have HSZ := hid hsz
  have mk1 := m_kids_thunk x.val
  have mk2 := m_head_thunk x.val
  have HT := hid (fun (p : Option Addr) W (hv : Vals W p ([x].map Ty.val)) => typeTexts_go [x] p 1 1 W rfl (by decide) hv (by intro i t ht; match i, ht with | 0, ht => simp at ht; subst ht; exact IHx.out))
  have hjl : (x.write).length ≤ 20000 := by simp [Ty.write] at hsz ⊢; omega
  have HJL := hid hjl
  have HN := hid (show ([x.text] : List ByteArray).length ≤ 140737488355328 by simp)
  have HJB := hid (show (Lib.join ([x.text].map (·.data.toList)) ({ data := #[32] } : ByteArray).data.toList).length ≤ 140737488355328 by rw [join_one' x]; omega)
  clear hsz hjl ihx
  simp only [Ty.val]
  go_enter Tryz.func20, Tryz.ntmps20
  go_wp2_with (first | (go_at_call 131; refine (kids_thunk x _).mono ?_; rintro e w1 ⟨b, rfl, hb0, hb1⟩; have HV := hid (vals_one hb0)) | (go_at_call 130; refine (head_thunk _ _).mono ?_; rintro e w2 ⟨rfl, hb2⟩) | (go_at_call 39; refine (HT.out _ _ ((HV.out).kept (Kept.of_below hb2 (Nat.le_refl _)))).mono ?_; rintro e w3 ⟨⟨q, c, rfl, hown⟩, hb3⟩; obtain ⟨g, rfl, hnc, hbg, hgl, hcl⟩ := own_slice hown (Nat.succ_pos _); have HC := hid hcl; clear hown hcl) | (go_at_call 38; refine (Tryz.strings_Join g 0 c [x.text] ({ data := #[32] } : ByteArray) _ (fun j z hj => HC.out j (.string z) (str_get (l := [x]) hj)) hgl HN.out hnc HJB.out).mono ?_; rintro e w4 ⟨he4, hb4⟩; obtain ⟨J, hJ⟩ : ∃ J, J = ({ data := (Lib.join ([x.text].map (·.data.toList)) ({ data := #[32] } : ByteArray).data.toList).toArray } : ByteArray) := ⟨_, rfl⟩; rw [← hJ] at he4; subst he4; rw [join_one' x] at hJ; have hJs : J.size ≤ 20000 := (by rw [hJ]; simpa [ByteArray.size] using HJL.out); have HJ := hid hJ; clear hJ))
  go_ret
  refine ⟨ret_str (text_eq HJ.out (by simp [Ty.write])), ?_⟩
  exact (hb1.trans (hb2.mono hb1.size)).trans ((hb3.mono (by have := hb1.size; have := hb2.size; omega)).trans (hb4.mono (by have := hb1.size; have := hb2.size; have := hb3.size; omega)))

set_option maxRecDepth 100000 in
set_option maxHeartbeats 1000000 in
theorem typeText_ret (x : Ty) (hsz : (Ty.ret x).write.length ≤ 20000) (ihx : ∀ W, Calls Tryz.prog 20 #[x.val] W fun e w' => e = .returned (.string x.text) ∧ Below W.heap.size W w') (w : World) :
    Calls Tryz.prog 20 #[(Ty.ret x).val] w fun e w' => e = .returned (.string (Ty.ret x).text) ∧ Below w.heap.size w w' := by
  have IHx := hid ihx
  have HSZ := hid hsz
  have mk1 := m_kids_ret x.val
  have mk2 := m_head_ret x.val
  have HT := hid (fun (p : Option Addr) W (hv : Vals W p ([x].map Ty.val)) => typeTexts_go [x] p 1 1 W rfl (by decide) hv (by intro i t ht; match i, ht with | 0, ht => simp at ht; subst ht; exact IHx.out))
  have hjl : (x.write).length ≤ 20000 := by simp [Ty.write] at hsz ⊢; omega
  have HJL := hid hjl
  have HN := hid (show ([x.text] : List ByteArray).length ≤ 140737488355328 by simp)
  have HJB := hid (show (Lib.join ([x.text].map (·.data.toList)) ({ data := #[32] } : ByteArray).data.toList).length ≤ 140737488355328 by rw [join_one' x]; omega)
  clear hsz hjl ihx
  simp only [Ty.val]
  go_enter Tryz.func20, Tryz.ntmps20
  go_wp2_with (first | (go_at_call 135; refine (kids_ret x _).mono ?_; rintro e w1 ⟨b, rfl, hb0, hb1⟩; have HV := hid (vals_one hb0)) | (go_at_call 134; refine (head_ret _ _).mono ?_; rintro e w2 ⟨rfl, hb2⟩) | (go_at_call 39; refine (HT.out _ _ ((HV.out).kept (Kept.of_below hb2 (Nat.le_refl _)))).mono ?_; rintro e w3 ⟨⟨q, c, rfl, hown⟩, hb3⟩; obtain ⟨g, rfl, hnc, hbg, hgl, hcl⟩ := own_slice hown (Nat.succ_pos _); have HC := hid hcl; clear hown hcl) | (go_at_call 38; refine (Tryz.strings_Join g 0 c [x.text] ({ data := #[32] } : ByteArray) _ (fun j z hj => HC.out j (.string z) (str_get (l := [x]) hj)) hgl HN.out hnc HJB.out).mono ?_; rintro e w4 ⟨he4, hb4⟩; obtain ⟨J, hJ⟩ : ∃ J, J = ({ data := (Lib.join ([x.text].map (·.data.toList)) ({ data := #[32] } : ByteArray).data.toList).toArray } : ByteArray) := ⟨_, rfl⟩; rw [← hJ] at he4; subst he4; rw [join_one' x] at hJ; have hJs : J.size ≤ 20000 := (by rw [hJ]; simpa [ByteArray.size] using HJL.out); have HJ := hid hJ; clear hJ))
  go_ret
  refine ⟨ret_str (text_eq HJ.out (by simp [Ty.write])), ?_⟩
  exact (hb1.trans (hb2.mono hb1.size)).trans ((hb3.mono (by have := hb1.size; have := hb2.size; omega)).trans (hb4.mono (by have := hb1.size; have := hb2.size; have := hb3.size; omega)))

set_option maxRecDepth 100000 in
set_option maxHeartbeats 1000000 in
theorem typeText_fn (x y : Ty) (hsz : (Ty.fn x y).write.length ≤ 20000) (ihx : ∀ W, Calls Tryz.prog 20 #[x.val] W fun e w' => e = .returned (.string x.text) ∧ Below W.heap.size W w') (ihy : ∀ W, Calls Tryz.prog 20 #[y.val] W fun e w' => e = .returned (.string y.text) ∧ Below W.heap.size W w') (w : World) :
    Calls Tryz.prog 20 #[(Ty.fn x y).val] w fun e w' => e = .returned (.string (Ty.fn x y).text) ∧ Below w.heap.size w w' := by
  have IHx := hid ihx
  have IHy := hid ihy
  have HSZ := hid hsz
  have mk1 := m_kids_fn x.val y.val
  have mk2 := m_head_fn x.val y.val
  have HT := hid (fun (p : Option Addr) W (hv : Vals W p ([x, y].map Ty.val)) => typeTexts_go [x, y] p 2 2 W rfl (by decide) hv (by intro i t ht; match i, ht with | 0, ht => simp at ht; subst ht; exact IHx.out | 1, ht => simp at ht; subst ht; exact IHy.out))
  have hjl : (x.write ++ 32 :: y.write).length ≤ 20000 := by simp [Ty.write] at hsz ⊢; omega
  have HJL := hid hjl
  have HN := hid (show ([x.text, y.text] : List ByteArray).length ≤ 140737488355328 by simp)
  have HJB := hid (show (Lib.join ([x.text, y.text].map (·.data.toList)) ({ data := #[32] } : ByteArray).data.toList).length ≤ 140737488355328 by rw [join_two x y]; omega)
  clear hsz hjl ihx ihy
  simp only [Ty.val]
  go_enter Tryz.func20, Tryz.ntmps20
  go_wp2_with (first | (go_at_call 139; refine (kids_fn x y _).mono ?_; rintro e w1 ⟨b, rfl, hb0, hb1⟩; have HV := hid (vals_two hb0)) | (go_at_call 138; refine (head_fn _ _ _).mono ?_; rintro e w2 ⟨rfl, hb2⟩) | (go_at_call 39; refine (HT.out _ _ ((HV.out).kept (Kept.of_below hb2 (Nat.le_refl _)))).mono ?_; rintro e w3 ⟨⟨q, c, rfl, hown⟩, hb3⟩; obtain ⟨g, rfl, hnc, hbg, hgl, hcl⟩ := own_slice hown (Nat.succ_pos _); have HC := hid hcl; clear hown hcl) | (go_at_call 38; refine (Tryz.strings_Join g 0 c [x.text, y.text] ({ data := #[32] } : ByteArray) _ (fun j z hj => HC.out j (.string z) (str_get (l := [x, y]) hj)) hgl HN.out hnc HJB.out).mono ?_; rintro e w4 ⟨he4, hb4⟩; obtain ⟨J, hJ⟩ : ∃ J, J = ({ data := (Lib.join ([x.text, y.text].map (·.data.toList)) ({ data := #[32] } : ByteArray).data.toList).toArray } : ByteArray) := ⟨_, rfl⟩; rw [← hJ] at he4; subst he4; rw [join_two x y] at hJ; have hJs : J.size ≤ 20000 := (by rw [hJ]; simpa [ByteArray.size] using HJL.out); have HJ := hid hJ; clear hJ))
  go_ret
  refine ⟨ret_str (text_eq HJ.out (by simp [Ty.write])), ?_⟩
  exact (hb1.trans (hb2.mono hb1.size)).trans ((hb3.mono (by have := hb1.size; have := hb2.size; omega)).trans (hb4.mono (by have := hb1.size; have := hb2.size; have := hb3.size; omega)))

set_option maxRecDepth 100000 in
set_option maxHeartbeats 1000000 in
theorem typeText_choice (x y : Ty) (hsz : (Ty.choice x y).write.length ≤ 20000) (ihx : ∀ W, Calls Tryz.prog 20 #[x.val] W fun e w' => e = .returned (.string x.text) ∧ Below W.heap.size W w') (ihy : ∀ W, Calls Tryz.prog 20 #[y.val] W fun e w' => e = .returned (.string y.text) ∧ Below W.heap.size W w') (w : World) :
    Calls Tryz.prog 20 #[(Ty.choice x y).val] w fun e w' => e = .returned (.string (Ty.choice x y).text) ∧ Below w.heap.size w w' := by
  have IHx := hid ihx
  have IHy := hid ihy
  have HSZ := hid hsz
  have mk1 := m_kids_choice x.val y.val
  have mk2 := m_head_choice x.val y.val
  have HT := hid (fun (p : Option Addr) W (hv : Vals W p ([x, y].map Ty.val)) => typeTexts_go [x, y] p 2 2 W rfl (by decide) hv (by intro i t ht; match i, ht with | 0, ht => simp at ht; subst ht; exact IHx.out | 1, ht => simp at ht; subst ht; exact IHy.out))
  have hjl : (x.write ++ 32 :: y.write).length ≤ 20000 := by simp [Ty.write] at hsz ⊢; omega
  have HJL := hid hjl
  have HN := hid (show ([x.text, y.text] : List ByteArray).length ≤ 140737488355328 by simp)
  have HJB := hid (show (Lib.join ([x.text, y.text].map (·.data.toList)) ({ data := #[32] } : ByteArray).data.toList).length ≤ 140737488355328 by rw [join_two x y]; omega)
  clear hsz hjl ihx ihy
  simp only [Ty.val]
  go_enter Tryz.func20, Tryz.ntmps20
  go_wp2_with (first | (go_at_call 143; refine (kids_choice x y _).mono ?_; rintro e w1 ⟨b, rfl, hb0, hb1⟩; have HV := hid (vals_two hb0)) | (go_at_call 142; refine (head_choice _ _ _).mono ?_; rintro e w2 ⟨rfl, hb2⟩) | (go_at_call 39; refine (HT.out _ _ ((HV.out).kept (Kept.of_below hb2 (Nat.le_refl _)))).mono ?_; rintro e w3 ⟨⟨q, c, rfl, hown⟩, hb3⟩; obtain ⟨g, rfl, hnc, hbg, hgl, hcl⟩ := own_slice hown (Nat.succ_pos _); have HC := hid hcl; clear hown hcl) | (go_at_call 38; refine (Tryz.strings_Join g 0 c [x.text, y.text] ({ data := #[32] } : ByteArray) _ (fun j z hj => HC.out j (.string z) (str_get (l := [x, y]) hj)) hgl HN.out hnc HJB.out).mono ?_; rintro e w4 ⟨he4, hb4⟩; obtain ⟨J, hJ⟩ : ∃ J, J = ({ data := (Lib.join ([x.text, y.text].map (·.data.toList)) ({ data := #[32] } : ByteArray).data.toList).toArray } : ByteArray) := ⟨_, rfl⟩; rw [← hJ] at he4; subst he4; rw [join_two x y] at hJ; have hJs : J.size ≤ 20000 := (by rw [hJ]; simpa [ByteArray.size] using HJL.out); have HJ := hid hJ; clear hJ))
  go_ret
  refine ⟨ret_str (text_eq HJ.out (by simp [Ty.write])), ?_⟩
  exact (hb1.trans (hb2.mono hb1.size)).trans ((hb3.mono (by have := hb1.size; have := hb2.size; omega)).trans (hb4.mono (by have := hb1.size; have := hb2.size; have := hb3.size; omega)))

/-- THE PROGRAM's TEXT OF A TYPE. -/
theorem typeText_big : ∀ (t : Ty), t.write.length ≤ 20000 → ∀ w, Calls Tryz.prog 20 #[t.val] w fun e w' => e = .returned (.string t.text) ∧ Below w.heap.size w w'
  | .bit, _, w => by
    have mk1 := m_kids_bit
    have mk2 := m_head_bit
    simp only [Ty.val]
    go_enter Tryz.func20, Tryz.ntmps20
    go_wp2_with (first | (go_at_call 148; refine (kids_bit _).mono ?_; rintro e w1 ⟨rfl, hb1⟩) | (go_at_call 147; refine (head_bit _).mono ?_; rintro e w2 ⟨rfl, hb2⟩))
    go_ret
    exact ⟨rfl, hb1.trans (hb2.mono hb1.size)⟩
  | .pair x y, h, w => typeText_pair x y h (fun W => typeText_big x (by simp [Ty.write] at h; omega) W) (fun W => typeText_big y (by simp [Ty.write] at h; omega) W) w
  | .thunk x, h, w => typeText_thunk x h (fun W => typeText_big x (by simp [Ty.write] at h; omega) W) w
  | .ret x, h, w => typeText_ret x h (fun W => typeText_big x (by simp [Ty.write] at h; omega) W) w
  | .fn x y, h, w => typeText_fn x y h (fun W => typeText_big x (by simp [Ty.write] at h; omega) W) (fun W => typeText_big y (by simp [Ty.write] at h; omega) W) w
  | .choice x y, h, w => typeText_choice x y h (fun W => typeText_big x (by simp [Ty.write] at h; omega) W) (fun W => typeText_big y (by simp [Ty.write] at h; omega) W) w
theorem typeText_any (t : Ty) (h : t.write.length ≤ 12000) (w : World) : Calls Tryz.prog 20 #[t.val] w fun e w' => e = .returned (.string t.text) ∧ Below w.heap.size w w' := typeText_big t (by omega) w
end Go.Proofs.YtmffcicpiialcaaGreatDoor

namespace Go.Proofs.YtmffcicpiialcaaGreatDoor
open Go.RowKit

/-- The parts of a type. -/
def Ty.kids : Ty → List Ty
  | .bit => []
  | .pair a b => [a, b]
  | .thunk c => [c]
  | .ret a => [a]
  | .fn a c => [a, c]
  | .choice c d => [c, d]
/-- The parts of what a text is. -/
def kidsO : Option Ty → List Ty
  | some ty => ty.kids
  | none => []
theorem own_base {w : World} {base base' size n : Nat} {e : TypeId} {v : Value} {xs : List Value} (h : w.ownsRow base e size v n xs) (hb : base' ≤ base) : w.ownsRow base' e size v n xs :=
  ⟨h.1, h.2.elim Or.inl (fun ⟨g, cap, cur, hv, hg, r⟩ => Or.inr ⟨g, cap, cur, hv, Nat.le_trans hb hg, r⟩)⟩
theorem parse_small {s : ByteArray} {t : Tree} (h : parse s = some t) : t.write.length ≤ 12000 := by
  rw [← parse_write h]
  unfold parse at h
  split at h
  · simpa using ‹s.size ≤ 12000›
  · simp at h
theorem readTy_small {s : ByteArray} {ty : Ty} (h : readTy s = some ty) : ty.write.length ≤ 12000 := by
  unfold readTy at h
  cases hp : parse s with
  | none => rw [hp] at h; simp at h
  | some t =>
    rw [hp] at h; simp only at h
    split at h
    · rw [← ty_write t ty h]; exact parse_small hp
    · simp at h

theorem tyParts_kids {L : List UInt8} {ks : List Ty} {ty : Ty} (h : tyParts L ks = some ty) : ty.kids = ks := by
  unfold tyParts at h
  split at h
  · split at h
    · simp at h; subst h; rfl
    · split at h
      · simp at h; subst h; rfl
      · split at h
        · simp at h; subst h; rfl
        · simp at h
  · split at h
    · simp at h; subst h; rfl
    · split at h
      · simp at h; subst h; rfl
      · simp at h
  · simp at h
theorem tys_get : ∀ (l : List Tree) (ks : List Ty), Tree.tys l = some ks → ∀ (i : Nat) (p : Tree), l[i]? = some p → ∃ t, ks[i]? = some t ∧ p.ty = some t := by
  intro l; induction l with
  | nil => intro ks _ i p h; simp at h
  | cons q l ih =>
    intro ks h i p hp
    rw [Tree.tys] at h
    cases hq : q.ty with
    | none => rw [hq] at h; simp at h
    | some t =>
      rw [hq] at h; simp only at h
      cases hr : Tree.tys l with
      | none => rw [hr] at h; simp at h
      | some ts =>
        rw [hr] at h; simp at h; subst h
        cases i with
        | zero => simp at hp; subst hp; exact ⟨t, rfl, hq⟩
        | succ i => simpa using ih ts hr i p (by simpa using hp)
end Go.Proofs.YtmffcicpiialcaaGreatDoor

namespace Go.Proofs.YtmffcicpiialcaaGreatDoor
open Go.RowKit

/-- Parts with blanks between them. -/
def Tree.join : List Tree → List UInt8
  | [] => []
  | p :: ps => p.write ++ Tree.writes ps
theorem write_node (ps : List Tree) : (Tree.node ps).write = 40 :: (Tree.join ps ++ [41]) := by
  cases ps with
  | nil => rfl
  | cons p ps => rw [Tree.write, Tree.join]; simp
theorem writes_append (a b : List Tree) : Tree.writes (a ++ b) = Tree.writes a ++ Tree.writes b := by
  induction a with
  | nil => rfl
  | cons p a ih => simp [Tree.writes, ih]
theorem join_append (a b : List Tree) (h : a ≠ []) : Tree.join (a ++ b) = Tree.join a ++ Tree.writes b := by
  cases a with
  | nil => exact absurd rfl h
  | cons p a => simp [Tree.join, writes_append]
theorem join_take (ps : List Tree) (j : Nat) : (Tree.join (ps.take j)).length ≤ (Tree.join ps).length := by
  by_cases h : ps.take j = []
  · rw [h]; simp [Tree.join]
  · conv => rhs; rw [← List.take_append_drop j ps, join_append _ _ h]
    simp
theorem join_snoc (ps : List Tree) (j : Nat) (p : Tree) (h : ps[j]? = some p) (hj : 0 < j) : Tree.join (ps.take (j + 1)) = Tree.join (ps.take j) ++ 32 :: p.write := by
  rw [List.take_add_one, h]
  have hlt := (List.getElem?_eq_some_iff.1 h).1
  rw [join_append _ _ (by intro e; have := congrArg List.length e; rw [List.length_take, List.length_nil] at this; omega)]
  simp [Tree.writes]
theorem join_first (ps : List Tree) (p : Tree) (h : ps[0]? = some p) : Tree.join (ps.take 1) = p.write := by
  cases ps with
  | nil => simp at h
  | cons q ps => simp at h; subst h; simp [Tree.join, Tree.writes]
theorem join_part (ps : List Tree) (j : Nat) (p : Tree) (h : ps[j]? = some p) : p.write.length ≤ (Tree.join ps).length := by
  have h1 := join_take ps (j + 1)
  by_cases hj : j = 0
  · subst hj; rw [join_first ps p h] at h1; exact h1
  · rw [join_snoc ps j p h (by omega)] at h1; simp at h1; omega
theorem size_toList (a : ByteArray) : a.size = a.toList.length := by rw [Go.ByteArray.toList_eq]; simp
/-- A tree's text. -/
def Tree.txt (t : Tree) : ByteArray := ⟨t.write.toArray⟩
theorem txt_toList (t : Tree) : t.txt.toList = t.write := by rw [Go.ByteArray.toList_eq]; rfl
theorem txt_size (t : Tree) : t.txt.size = t.write.length := by simp [Tree.txt, ByteArray.size]

set_option maxRecDepth 100000 in
set_option maxHeartbeats 2000000 in
theorem l1Text_big {w0 : World} {S : Nat → Prop} {t : Tree} {h : Hd} (ht : TIn w0 S t h) : t.write.length ≤ 400000000 → t.wt ≤ 400000000 → ∀ w, Kept w0 w → w0.heap.size ≤ w.heap.size →
    Calls Tryz.prog 34 #[.agg #[.string h.a, .slice h.p h.l h.c]] w fun e w' => e = .returned (.string t.txt) ∧ Below w.heap.size w w' := by
  induction ht with
  | atom s hne hm =>
    intro _ _ w _ _
    have he := isEmpty_not s hne
    have hx : s = (Tree.atom s).txt := by rw [Tree.txt, Tree.write]
    have HX := hid hx
    clear hx
    go_enter Tryz.func34, Tryz.ntmps34
    go_wp2
    go_ret
    exact ⟨ret_str HX.out, (Below.refl _ _).alloc (by simp) _⟩
  | node ps b cap A hp hl hc hS hA hB hps ih =>
    intro hwl hwt w hk hw
    have hlen := wts_length ps
    rw [Tree.wt] at hwt
    rw [write_node] at hwl
    obtain ⟨n, hn⟩ : ∃ n, n = ps.length := ⟨_, rfl⟩
    rw [← hn] at hp hl hA hB hlen ⊢
    have hjl : (Tree.join ps).length ≤ 400000000 := by simp at hwl; omega
    have HN := hid hn
    have HIH := hid ih
    have HA := hid hA
    have HB := hid hB
    have HK := hid hk
    have HWT := hid hwt
    have HJL := hid hjl
    clear hn ih hA hB hk hps hwt hjl hwl
    have hn2 : n ≤ 400000000 := by have := HWT.out; omega
    go_enter Tryz.func34, Tryz.ntmps34
    go_wp2_with fail
    go_loopw [3, 4] (fun v u wr => ∃ (j : Nat) (o : ByteArray), j ≤ n ∧ u = .int .i64 (j : Int) ∧ v = .string o ∧ o.size ≤ 400000001 ∧ Hid (o.toList = 40 :: Tree.join (ps.take j)) ∧ Below (w.heap.size + 1) (w.alloc (.cells #[.string ByteArray.empty, .slice (some ⟨b, 0, none⟩) n cap] 42)) wr) (fun _ u _ => n - (intOf u).toNat)
    case atStart => exact ⟨0, _, Nat.zero_le _, rfl, rfl, by decide, hid (by rw [Go.ByteArray.toList_eq]; rfl), Below.refl _ _⟩
    case round =>
      obtain ⟨j, o, hj, rfl, rfl, ho, hol, hbel⟩ := hrel
      have hz := hbel.size
      simp at hz
      have kb : Kept w wr := ((Kept.refl w).alloc (Nat.le_refl _) _).below hbel (by omega)
      have e1 := cells_of_pair (block_below (heap_new w (.cells #[.string ByteArray.empty, .slice (some ⟨b, 0, none⟩) n cap] 42) w.heap.size rfl) hbel (by omega))
      have HBW : Hid (Below w.heap.size w wr) := ((Below.refl _ _).alloc (by simp) _).trans (hbel.mono (by omega))
      by_cases hlt : j < n
      · have kw : Kept w0 wr := HK.out.trans kb hw
        have ca := kw.cell (HA.out j hlt)
        have cb := kw.cell (HB.out j hlt)
        obtain ⟨p, hp⟩ : ∃ p, ps[j]? = some p := ⟨_, List.getElem?_eq_getElem (by rw [← HN.out]; exact hlt)⟩
        have hpl := join_part ps j p hp
        have hps1 : p.txt.size ≤ 400000000 := by rw [txt_size]; have := HJL.out; omega
        have HC := hid (HIH.out j p hp (by have := HJL.out; omega) (by have := wt_part ps j p hp; have := HWT.out; omega) wr kw (by omega))
        have hjt := join_take ps (j + 1)
        by_cases hj0 : j = 0
        · subst hj0
          have hnx : (o ++ p.txt).toList = 40 :: Tree.join (ps.take (0 + 1)) := by rw [append_toList, hol.out, txt_toList, join_first ps p hp]; simp [Tree.join]
          have hns : (o ++ p.txt).size ≤ 400000001 := by
            rw [size_toList, hnx]
            have := HJL.out
            simp only [List.length_cons]; omega
          have HNX := hid hnx
          have HNS := hid hns
          clear hnx hns hp kw kb hpl hjt
          go_wp2_with (go_at_call 34; refine HC.out.mono ?_; rintro e w1 ⟨rfl, hb1⟩)
          go_roundw
          case rel => exact ⟨0 + 1, o ++ p.txt, by omega, by go_num, rfl, HNS.out, HNX, hbel.trans (hb1.mono (by omega))⟩
          case measure => simp [intOf]; omega
        · have hnx : ((o ++ ({ data := #[32] } : ByteArray)) ++ p.txt).toList = 40 :: Tree.join (ps.take (j + 1)) := by rw [append_toList, append_toList, hol.out, txt_toList, space_toList, join_snoc ps j p hp (by omega)]; simp
          have hns : ((o ++ ({ data := #[32] } : ByteArray)) ++ p.txt).size ≤ 400000001 := by
            rw [size_toList, hnx]
            have := HJL.out
            simp only [List.length_cons]; omega
          have HNX := hid hnx
          have HNS := hid hns
          have hj1 : 0 < j := by omega
          clear hnx hns hp kw kb hpl hjt hj0
          go_wp2_with (go_at_call 34; refine HC.out.mono ?_; rintro e w1 ⟨rfl, hb1⟩)
          go_roundw
          case rel => exact ⟨j + 1, _, by omega, by go_num, rfl, HNS.out, HNX, hbel.trans (hb1.mono (by omega))⟩
          case measure => simp [intOf]; omega
      · have hjn : j = n := by omega
        have HJN := hid hjn
        clear hjn kb
        go_wp2_with fail
        go_ret
        refine ⟨ret_str ?_, HBW.out⟩
        have := hol.out
        rw [HJN.out, HN.out, List.take_length] at this
        rw [bytes_of_toList (show (o ++ ({ data := #[41] } : ByteArray)).toList = 40 :: (Tree.join ps ++ [41]) by rw [append_toList, this, show ({ data := #[41] } : ByteArray).toList = [41] by rw [Go.ByteArray.toList_eq]]; simp), Tree.txt, write_node]
theorem l1Text_any {w0 : World} {S : Nat → Prop} {t : Tree} {h : Hd} (ht : TIn w0 S t h) (h1 : t.write.length ≤ 12000) (h2 : t.wt ≤ 12000) (w : World) (hk : Kept w0 w) (hw : w0.heap.size ≤ w.heap.size) :
    Calls Tryz.prog 34 #[.agg #[.string h.a, .slice h.p h.l h.c]] w fun e w' => e = .returned (.string t.txt) ∧ Below w.heap.size w w' := l1Text_big ht (by omega) (by omega) w hk hw
end Go.Proofs.YtmffcicpiialcaaGreatDoor
