/- Merged: Texts, KidsP, CountA, CountB, VtP, DfP, DfQ, L4P, DecM, TrTw, DfN. -/
import Derived.Test.YtagifgekhboinaaGreatDoorShelf
import Derived.Test.YtagifgekhboinaaGreatDoorDA9
import Derived.Test.YtagifgekhboinaaGreatDoorDA11
import Derived.Deep.QuietTactic
import Derived.BigQuiet
import Derived.Test.YtagifgekhboinaaGreatDoorDA0
import Derived.Test.YtagifgekhboinaaGreatDoorDASSpecT
namespace Go.Proofs.YtagifgekhboinaaGreatDoor
open Go.RowKit

/-- What typeTexts leaves. -/
def TextsPost (l : List Ty) (w : World) (e : Ending) (w' : World) : Prop :=
  (∃ q c, e = .returned (.slice q l.length c) ∧ w'.ownsRow w.heap.size 9 1 (.slice q l.length c) l.length (l.map fun t => Value.string t.text)) ∧ Below w.heap.size w w'

set_option maxRecDepth 100000 in
set_option maxHeartbeats 1000000 in
theorem typeTexts_go (l : List Ty) (p : Option Addr) (n cap : Nat) (w : World) (hn : Hid (l.length = n)) (hnb : n ≤ 20000) (hv : Vals w p (l.map Ty.val))
    (ih : ∀ (i : Nat) (t : Ty), l[i]? = some t → ∀ W, Calls Tryz.prog 61 #[t.val] W fun e w' => e = .returned (.string t.text) ∧ Below W.heap.size W w') :
    Calls Tryz.prog 83 #[.slice p n cap] w (TextsPost l w) := by
  have HV := hid hv
  have HIH := hid ih
  clear hv ih
  go_enter Tryz.func83, Tryz.ntmps83
  go_wp2_with fail
  go_loopw [3, 8] (fun v u wr => ∃ (i c : Nat) (q : Option Addr), i ≤ n ∧ u = .int .i64 (i : Int) ∧ v = .slice q i c ∧ wr.ownsRow w.heap.size 9 1 (.slice q i c) i ((l.take i).map fun t => Value.string t.text) ∧ Below w.heap.size w wr) (fun _ u _ => n - (intOf u).toNat)
  case atStart => exact ⟨0, 0, none, Nat.zero_le _, rfl, rfl, World.ownsRow_nil _ _ _ _, Below.refl _ _⟩
  case round =>
    obtain ⟨i, c, q, hi, rfl, rfl, hown, hbel⟩ := hrel
    have HOWN := hid hown
    have hz := hbel.size
    clear hown
    by_cases hlt : i < n
    · obtain ⟨t, ht⟩ : ∃ t, l[i]? = some t := ⟨_, List.getElem?_eq_getElem (by rw [hn.out]; exact hlt)⟩
      obtain ⟨b, o, rfl, hc⟩ := HV.out i t.val (by simp [ht])
      have hc' := (hbel.cell (p := ⟨b, o + i, none⟩) (World.block_lt_of_cell? w _ hc)).trans hc
      have HC := hid (HIH.out i t ht)
      have HT := hid ht
      obtain ⟨x, hx⟩ : ∃ x, t.text = x := ⟨_, rfl⟩
      have HX := hid hx
      obtain ⟨i0, hi0, hz0, hz1, hz2⟩ := info_parts Tryz.infoStr
      clear hc ht hx
      go_wp2_with (first | (at_builtin; refine wpList_append_at _ rfl (.tmp 12) (.tmp 15) 60 rfl w.heap.size 9 i0 (.string ByteArray.empty) 1 16 Tryz.underlying60 hi0 hz0 hz1 hz2 rfl (by decide) (.slice q i c) i _ rfl ((ownsRow_under HOWN.out hb1).alloc _) ⟨w1.heap.size, 0, none⟩ 1 1 [.string x] rfl rfl (cells_new1 _ _ _ _ rfl) (by intro u hu; simp at hu; subst hu; rfl) (by decide) (by unfold maxLen; omega) (by omega) (by have := hb1.size; simp; omega) ?_; intro v' w2 hown2 hg2 hw2 hv2; obtain ⟨g2, kc2, rfl⟩ := hv2; have HG := hid hg2; have HO := hid hown2; clear hg2 hown2 hw2) | (go_at_call 61; refine (HC.out _).mono ?_; rintro e w1 ⟨he1, hb1⟩; rw [HX.out] at he1; subst he1))
      go_roundw
      case rel =>
        refine ⟨i + 1, kc2, some ⟨g2, 0, none⟩, by omega, by go_num, rfl, ?_, ?_⟩
        · rw [List.take_add_one, HT.out, List.map_append]; simp only [Option.toList_some, List.map_cons, List.map_nil]; rw [HX.out]; exact HO.out
        · have hlo := HOWN.out.lt
          have s1 := hb1.size
          exact ((hbel.trans (hb1.mono hz)).alloc (by omega) _).grown HG.out (by simp; omega) (fun k e => (hlo k e).1)
      case measure => simp [intOf]; omega
    · have hin : i = n := by omega
      have HI := hid hin
      clear hin
      go_wp2_with fail
      go_ret
      refine ⟨⟨q, c, ?_, ?_⟩, hbel⟩
      · rw [hn.out, ← HI.out]; rfl
      · have := HOWN.out
        rw [HI.out, List.take_of_length_le (Nat.le_of_eq hn.out)] at this
        rw [hn.out]; exact this

theorem own_slice {w : World} {base : Nat} {e : TypeId} {q : Option Addr} {n c : Nat} {xs : List Value} (h : w.ownsRow base e 1 (.slice q n c) n xs) (h0 : 0 < n) :
    ∃ g, q = some ⟨g, 0, none⟩ ∧ n ≤ c ∧ base ≤ g ∧ g < w.heap.size ∧ ∀ j v, xs[j]? = some v → w.cell? ⟨g, 0 + j, none⟩ = some v := by
  rcases h.2 with ⟨_, hn⟩ | ⟨g, cap, cur, hv, hbg, hg, hnc, _⟩
  · omega
  · obtain ⟨rfl, rfl⟩ : q = some ⟨g, 0, none⟩ ∧ c = cap := by simp at hv; exact hv
    refine ⟨g, rfl, hnc, hbg, lt_of_block hg, fun j v hj => ?_⟩
    have hc := h.cells (g := g) rfl j v hj
    have hadd : (⟨g, 0, none⟩ : Addr).add j = ⟨g, 0 + j, none⟩ := by unfold Addr.add; split <;> simp_all
    rw [← hadd]; exact hc
theorem str_get {l : List Ty} {j : Nat} {x : ByteArray} (hj : (l.map Ty.text)[j]? = some x) : (l.map fun t => Value.string t.text)[j]? = some (.string x) := by
  rw [List.getElem?_map] at hj ⊢
  cases h : l[j]? with
  | none => rw [h] at hj; simp at hj
  | some t => rw [h] at hj; simp at hj; subst hj; rfl
theorem join_two (x y : Ty) : Lib.join ([x.text, y.text].map (·.data.toList)) ({ data := #[32] } : ByteArray).data.toList = x.write ++ 32 :: y.write := by
  rw [List.map_cons, Lib.join_cons]; simp [Lib.joinTail, Ty.text]
theorem join_one' (x : Ty) : Lib.join ([x.text].map (·.data.toList)) ({ data := #[32] } : ByteArray).data.toList = x.write := by
  rw [List.map_cons, List.map_nil, Lib.join_one]; simp [Ty.text]
theorem text_eq {J : ByteArray} {h : UInt8} {L : List UInt8} {t : Ty} (hJ : J = ⟨L.toArray⟩) (ht : t.write = 40 :: h :: 32 :: (L ++ [41])) :
    ((((({ data := #[40] } : ByteArray) ++ ({ data := #[h] } : ByteArray)) ++ ({ data := #[32] } : ByteArray)) ++ J) ++ ({ data := #[41] } : ByteArray)) = t.text := by
  have hh : ({ data := #[h] } : ByteArray).toList = [h] := by rw [Go.ByteArray.toList_eq]
  have h1 : ({ data := #[40] } : ByteArray).toList = [40] := by rw [Go.ByteArray.toList_eq]
  have h2 : ({ data := #[41] } : ByteArray).toList = [41] := by rw [Go.ByteArray.toList_eq]
  have h3 : J.toList = L := by rw [Go.ByteArray.toList_eq, hJ]
  have := bytes_of_toList (a := (((({ data := #[40] } : ByteArray) ++ ({ data := #[h] } : ByteArray)) ++ ({ data := #[32] } : ByteArray)) ++ J) ++ ({ data := #[41] } : ByteArray)) (l := t.write) (by rw [append_toList, append_toList, append_toList, append_toList, hh, h1, h2, h3, space_toList, ht]; simp)
  rw [this]; rfl

set_option maxRecDepth 100000 in
set_option maxHeartbeats 1000000 in
theorem typeText_pair (x y : Ty) (hsz : (Ty.pair x y).write.length ≤ 20000) (ihx : ∀ W, Calls Tryz.prog 61 #[x.val] W fun e w' => e = .returned (.string x.text) ∧ Below W.heap.size W w') (ihy : ∀ W, Calls Tryz.prog 61 #[y.val] W fun e w' => e = .returned (.string y.text) ∧ Below W.heap.size W w') (w : World) :
    Calls Tryz.prog 61 #[(Ty.pair x y).val] w fun e w' => e = .returned (.string (Ty.pair x y).text) ∧ Below w.heap.size w w' := by
  have IHx := hid ihx
  have IHy := hid ihy
  have HSZ := hid hsz
  have mk1 := m_kids_pair x.val y.val
  have mk2 := m_head_pair x.val y.val
  have HT := hid (fun (p : Option Addr) W (hv : Vals W p ([x, y].map Ty.val)) => typeTexts_go [x, y] p 2 2 W rfl (by decide) hv (by intro i t ht; match i, ht with | 0, ht => simp at ht; subst ht; exact IHx.out | 1, ht => simp at ht; subst ht; exact IHy.out))
  have hjl : (x.write ++ 32 :: y.write).length ≤ 20000 := by simp [Ty.write] at hsz ⊢; omega
  have HJL := hid hjl
  have HN := hid (show ([x.text, y.text] : List ByteArray).length ≤ 140737488355328 by simp)
  have HJB := hid (show (Lib.join ([x.text, y.text].map (·.data.toList)) ({ data := #[32] } : ByteArray).data.toList).length ≤ 140737488355328 by rw [join_two x y]; omega)
  clear hsz hjl ihx ihy
  simp only [Ty.val]
  go_enter Tryz.func61, Tryz.ntmps61
  go_wp2_with (first | (go_at_call 174; refine (kids_pair x y _).mono ?_; rintro e w1 ⟨b, rfl, hb0, hb1⟩; have HV := hid (vals_two hb0)) | (go_at_call 173; refine (head_pair _ _ _).mono ?_; rintro e w2 ⟨rfl, hb2⟩) | (go_at_call 83; refine (HT.out _ _ ((HV.out).kept (Kept.of_below hb2 (Nat.le_refl _)))).mono ?_; rintro e w3 ⟨⟨q, c, rfl, hown⟩, hb3⟩; obtain ⟨g, rfl, hnc, hbg, hgl, hcl⟩ := own_slice hown (Nat.succ_pos _); have HC := hid hcl; clear hown hcl) | (go_at_call 82; refine (Tryz.strings_Join g 0 c [x.text, y.text] ({ data := #[32] } : ByteArray) _ (fun j z hj => HC.out j (.string z) (str_get (l := [x, y]) hj)) hgl HN.out hnc HJB.out).mono ?_; rintro e w4 ⟨he4, hb4⟩; obtain ⟨J, hJ⟩ : ∃ J, J = ({ data := (Lib.join ([x.text, y.text].map (·.data.toList)) ({ data := #[32] } : ByteArray).data.toList).toArray } : ByteArray) := ⟨_, rfl⟩; rw [← hJ] at he4; subst he4; rw [join_two x y] at hJ; have hJs : J.size ≤ 20000 := (by rw [hJ]; simpa [ByteArray.size] using HJL.out); have HJ := hid hJ; clear hJ))
  go_ret
  refine ⟨ret_str (text_eq HJ.out (by simp [Ty.write])), ?_⟩
  exact (hb1.trans (hb2.mono hb1.size)).trans ((hb3.mono (by have := hb1.size; have := hb2.size; omega)).trans (hb4.mono (by have := hb1.size; have := hb2.size; have := hb3.size; omega)))

set_option maxRecDepth 100000 in
set_option maxHeartbeats 1000000 in
theorem typeText_thunk (x : Ty) (hsz : (Ty.thunk x).write.length ≤ 20000) (ihx : ∀ W, Calls Tryz.prog 61 #[x.val] W fun e w' => e = .returned (.string x.text) ∧ Below W.heap.size W w') (w : World) :
    Calls Tryz.prog 61 #[(Ty.thunk x).val] w fun e w' => e = .returned (.string (Ty.thunk x).text) ∧ Below w.heap.size w w' := by
  have IHx := hid ihx
  have HSZ := hid hsz
  have mk1 := m_kids_thunk x.val
  have mk2 := m_head_thunk x.val
  have HT := hid (fun (p : Option Addr) W (hv : Vals W p ([x].map Ty.val)) => typeTexts_go [x] p 1 1 W rfl (by decide) hv (by intro i t ht; match i, ht with | 0, ht => simp at ht; subst ht; exact IHx.out))
  have hjl : (x.write).length ≤ 20000 := by simp [Ty.write] at hsz ⊢; omega
  have HJL := hid hjl
  have HN := hid (show ([x.text] : List ByteArray).length ≤ 140737488355328 by simp)
  have HJB := hid (show (Lib.join ([x.text].map (·.data.toList)) ({ data := #[32] } : ByteArray).data.toList).length ≤ 140737488355328 by rw [join_one' x]; omega)
  clear hsz hjl ihx
  simp only [Ty.val]
  go_enter Tryz.func61, Tryz.ntmps61
  go_wp2_with (first | (go_at_call 182; refine (kids_thunk x _).mono ?_; rintro e w1 ⟨b, rfl, hb0, hb1⟩; have HV := hid (vals_one hb0)) | (go_at_call 181; refine (head_thunk _ _).mono ?_; rintro e w2 ⟨rfl, hb2⟩) | (go_at_call 83; refine (HT.out _ _ ((HV.out).kept (Kept.of_below hb2 (Nat.le_refl _)))).mono ?_; rintro e w3 ⟨⟨q, c, rfl, hown⟩, hb3⟩; obtain ⟨g, rfl, hnc, hbg, hgl, hcl⟩ := own_slice hown (Nat.succ_pos _); have HC := hid hcl; clear hown hcl) | (go_at_call 82; refine (Tryz.strings_Join g 0 c [x.text] ({ data := #[32] } : ByteArray) _ (fun j z hj => HC.out j (.string z) (str_get (l := [x]) hj)) hgl HN.out hnc HJB.out).mono ?_; rintro e w4 ⟨he4, hb4⟩; obtain ⟨J, hJ⟩ : ∃ J, J = ({ data := (Lib.join ([x.text].map (·.data.toList)) ({ data := #[32] } : ByteArray).data.toList).toArray } : ByteArray) := ⟨_, rfl⟩; rw [← hJ] at he4; subst he4; rw [join_one' x] at hJ; have hJs : J.size ≤ 20000 := (by rw [hJ]; simpa [ByteArray.size] using HJL.out); have HJ := hid hJ; clear hJ))
  go_ret
  refine ⟨ret_str (text_eq HJ.out (by simp [Ty.write])), ?_⟩
  exact (hb1.trans (hb2.mono hb1.size)).trans ((hb3.mono (by have := hb1.size; have := hb2.size; omega)).trans (hb4.mono (by have := hb1.size; have := hb2.size; have := hb3.size; omega)))

set_option maxRecDepth 100000 in
set_option maxHeartbeats 1000000 in
theorem typeText_ret (x : Ty) (hsz : (Ty.ret x).write.length ≤ 20000) (ihx : ∀ W, Calls Tryz.prog 61 #[x.val] W fun e w' => e = .returned (.string x.text) ∧ Below W.heap.size W w') (w : World) :
    Calls Tryz.prog 61 #[(Ty.ret x).val] w fun e w' => e = .returned (.string (Ty.ret x).text) ∧ Below w.heap.size w w' := by
  have IHx := hid ihx
  have HSZ := hid hsz
  have mk1 := m_kids_ret x.val
  have mk2 := m_head_ret x.val
  have HT := hid (fun (p : Option Addr) W (hv : Vals W p ([x].map Ty.val)) => typeTexts_go [x] p 1 1 W rfl (by decide) hv (by intro i t ht; match i, ht with | 0, ht => simp at ht; subst ht; exact IHx.out))
  have hjl : (x.write).length ≤ 20000 := by simp [Ty.write] at hsz ⊢; omega
  have HJL := hid hjl
  have HN := hid (show ([x.text] : List ByteArray).length ≤ 140737488355328 by simp)
  have HJB := hid (show (Lib.join ([x.text].map (·.data.toList)) ({ data := #[32] } : ByteArray).data.toList).length ≤ 140737488355328 by rw [join_one' x]; omega)
  clear hsz hjl ihx
  simp only [Ty.val]
  go_enter Tryz.func61, Tryz.ntmps61
  go_wp2_with (first | (go_at_call 186; refine (kids_ret x _).mono ?_; rintro e w1 ⟨b, rfl, hb0, hb1⟩; have HV := hid (vals_one hb0)) | (go_at_call 185; refine (head_ret _ _).mono ?_; rintro e w2 ⟨rfl, hb2⟩) | (go_at_call 83; refine (HT.out _ _ ((HV.out).kept (Kept.of_below hb2 (Nat.le_refl _)))).mono ?_; rintro e w3 ⟨⟨q, c, rfl, hown⟩, hb3⟩; obtain ⟨g, rfl, hnc, hbg, hgl, hcl⟩ := own_slice hown (Nat.succ_pos _); have HC := hid hcl; clear hown hcl) | (go_at_call 82; refine (Tryz.strings_Join g 0 c [x.text] ({ data := #[32] } : ByteArray) _ (fun j z hj => HC.out j (.string z) (str_get (l := [x]) hj)) hgl HN.out hnc HJB.out).mono ?_; rintro e w4 ⟨he4, hb4⟩; obtain ⟨J, hJ⟩ : ∃ J, J = ({ data := (Lib.join ([x.text].map (·.data.toList)) ({ data := #[32] } : ByteArray).data.toList).toArray } : ByteArray) := ⟨_, rfl⟩; rw [← hJ] at he4; subst he4; rw [join_one' x] at hJ; have hJs : J.size ≤ 20000 := (by rw [hJ]; simpa [ByteArray.size] using HJL.out); have HJ := hid hJ; clear hJ))
  go_ret
  refine ⟨ret_str (text_eq HJ.out (by simp [Ty.write])), ?_⟩
  exact (hb1.trans (hb2.mono hb1.size)).trans ((hb3.mono (by have := hb1.size; have := hb2.size; omega)).trans (hb4.mono (by have := hb1.size; have := hb2.size; have := hb3.size; omega)))

set_option maxRecDepth 100000 in
set_option maxHeartbeats 1000000 in
theorem typeText_fn (x y : Ty) (hsz : (Ty.fn x y).write.length ≤ 20000) (ihx : ∀ W, Calls Tryz.prog 61 #[x.val] W fun e w' => e = .returned (.string x.text) ∧ Below W.heap.size W w') (ihy : ∀ W, Calls Tryz.prog 61 #[y.val] W fun e w' => e = .returned (.string y.text) ∧ Below W.heap.size W w') (w : World) :
    Calls Tryz.prog 61 #[(Ty.fn x y).val] w fun e w' => e = .returned (.string (Ty.fn x y).text) ∧ Below w.heap.size w w' := by
  have IHx := hid ihx
  have IHy := hid ihy
  have HSZ := hid hsz
  have mk1 := m_kids_fn x.val y.val
  have mk2 := m_head_fn x.val y.val
  have HT := hid (fun (p : Option Addr) W (hv : Vals W p ([x, y].map Ty.val)) => typeTexts_go [x, y] p 2 2 W rfl (by decide) hv (by intro i t ht; match i, ht with | 0, ht => simp at ht; subst ht; exact IHx.out | 1, ht => simp at ht; subst ht; exact IHy.out))
  have hjl : (x.write ++ 32 :: y.write).length ≤ 20000 := by simp [Ty.write] at hsz ⊢; omega
  have HJL := hid hjl
  have HN := hid (show ([x.text, y.text] : List ByteArray).length ≤ 140737488355328 by simp)
  have HJB := hid (show (Lib.join ([x.text, y.text].map (·.data.toList)) ({ data := #[32] } : ByteArray).data.toList).length ≤ 140737488355328 by rw [join_two x y]; omega)
  clear hsz hjl ihx ihy
  simp only [Ty.val]
  go_enter Tryz.func61, Tryz.ntmps61
  go_wp2_with (first | (go_at_call 190; refine (kids_fn x y _).mono ?_; rintro e w1 ⟨b, rfl, hb0, hb1⟩; have HV := hid (vals_two hb0)) | (go_at_call 189; refine (head_fn _ _ _).mono ?_; rintro e w2 ⟨rfl, hb2⟩) | (go_at_call 83; refine (HT.out _ _ ((HV.out).kept (Kept.of_below hb2 (Nat.le_refl _)))).mono ?_; rintro e w3 ⟨⟨q, c, rfl, hown⟩, hb3⟩; obtain ⟨g, rfl, hnc, hbg, hgl, hcl⟩ := own_slice hown (Nat.succ_pos _); have HC := hid hcl; clear hown hcl) | (go_at_call 82; refine (Tryz.strings_Join g 0 c [x.text, y.text] ({ data := #[32] } : ByteArray) _ (fun j z hj => HC.out j (.string z) (str_get (l := [x, y]) hj)) hgl HN.out hnc HJB.out).mono ?_; rintro e w4 ⟨he4, hb4⟩; obtain ⟨J, hJ⟩ : ∃ J, J = ({ data := (Lib.join ([x.text, y.text].map (·.data.toList)) ({ data := #[32] } : ByteArray).data.toList).toArray } : ByteArray) := ⟨_, rfl⟩; rw [← hJ] at he4; subst he4; rw [join_two x y] at hJ; have hJs : J.size ≤ 20000 := (by rw [hJ]; simpa [ByteArray.size] using HJL.out); have HJ := hid hJ; clear hJ))
  go_ret
  refine ⟨ret_str (text_eq HJ.out (by simp [Ty.write])), ?_⟩
  exact (hb1.trans (hb2.mono hb1.size)).trans ((hb3.mono (by have := hb1.size; have := hb2.size; omega)).trans (hb4.mono (by have := hb1.size; have := hb2.size; have := hb3.size; omega)))

set_option maxRecDepth 100000 in
set_option maxHeartbeats 1000000 in
theorem typeText_choice (x y : Ty) (hsz : (Ty.choice x y).write.length ≤ 20000) (ihx : ∀ W, Calls Tryz.prog 61 #[x.val] W fun e w' => e = .returned (.string x.text) ∧ Below W.heap.size W w') (ihy : ∀ W, Calls Tryz.prog 61 #[y.val] W fun e w' => e = .returned (.string y.text) ∧ Below W.heap.size W w') (w : World) :
    Calls Tryz.prog 61 #[(Ty.choice x y).val] w fun e w' => e = .returned (.string (Ty.choice x y).text) ∧ Below w.heap.size w w' := by
  have IHx := hid ihx
  have IHy := hid ihy
  have HSZ := hid hsz
  have mk1 := m_kids_choice x.val y.val
  have mk2 := m_head_choice x.val y.val
  have HT := hid (fun (p : Option Addr) W (hv : Vals W p ([x, y].map Ty.val)) => typeTexts_go [x, y] p 2 2 W rfl (by decide) hv (by intro i t ht; match i, ht with | 0, ht => simp at ht; subst ht; exact IHx.out | 1, ht => simp at ht; subst ht; exact IHy.out))
  have hjl : (x.write ++ 32 :: y.write).length ≤ 20000 := by simp [Ty.write] at hsz ⊢; omega
  have HJL := hid hjl
  have HN := hid (show ([x.text, y.text] : List ByteArray).length ≤ 140737488355328 by simp)
  have HJB := hid (show (Lib.join ([x.text, y.text].map (·.data.toList)) ({ data := #[32] } : ByteArray).data.toList).length ≤ 140737488355328 by rw [join_two x y]; omega)
  clear hsz hjl ihx ihy
  simp only [Ty.val]
  go_enter Tryz.func61, Tryz.ntmps61
  go_wp2_with (first | (go_at_call 178; refine (kids_choice x y _).mono ?_; rintro e w1 ⟨b, rfl, hb0, hb1⟩; have HV := hid (vals_two hb0)) | (go_at_call 177; refine (head_choice _ _ _).mono ?_; rintro e w2 ⟨rfl, hb2⟩) | (go_at_call 83; refine (HT.out _ _ ((HV.out).kept (Kept.of_below hb2 (Nat.le_refl _)))).mono ?_; rintro e w3 ⟨⟨q, c, rfl, hown⟩, hb3⟩; obtain ⟨g, rfl, hnc, hbg, hgl, hcl⟩ := own_slice hown (Nat.succ_pos _); have HC := hid hcl; clear hown hcl) | (go_at_call 82; refine (Tryz.strings_Join g 0 c [x.text, y.text] ({ data := #[32] } : ByteArray) _ (fun j z hj => HC.out j (.string z) (str_get (l := [x, y]) hj)) hgl HN.out hnc HJB.out).mono ?_; rintro e w4 ⟨he4, hb4⟩; obtain ⟨J, hJ⟩ : ∃ J, J = ({ data := (Lib.join ([x.text, y.text].map (·.data.toList)) ({ data := #[32] } : ByteArray).data.toList).toArray } : ByteArray) := ⟨_, rfl⟩; rw [← hJ] at he4; subst he4; rw [join_two x y] at hJ; have hJs : J.size ≤ 20000 := (by rw [hJ]; simpa [ByteArray.size] using HJL.out); have HJ := hid hJ; clear hJ))
  go_ret
  refine ⟨ret_str (text_eq HJ.out (by simp [Ty.write])), ?_⟩
  exact (hb1.trans (hb2.mono hb1.size)).trans ((hb3.mono (by have := hb1.size; have := hb2.size; omega)).trans (hb4.mono (by have := hb1.size; have := hb2.size; have := hb3.size; omega)))

/-- THE PROGRAM's TEXT OF A TYPE. -/
theorem typeText_big : ∀ (t : Ty), t.write.length ≤ 20000 → ∀ w, Calls Tryz.prog 61 #[t.val] w fun e w' => e = .returned (.string t.text) ∧ Below w.heap.size w w'
  | .bit, _, w => by
    have mk1 := m_kids_bit
    have mk2 := m_head_bit
    simp only [Ty.val]
    go_enter Tryz.func61, Tryz.ntmps61
    go_wp2_with (first | (go_at_call 194; refine (kids_bit _).mono ?_; rintro e w1 ⟨rfl, hb1⟩) | (go_at_call 193; refine (head_bit _).mono ?_; rintro e w2 ⟨rfl, hb2⟩))
    go_ret
    exact ⟨rfl, hb1.trans (hb2.mono hb1.size)⟩
  | .pair x y, h, w => typeText_pair x y h (fun W => typeText_big x (by simp [Ty.write] at h; omega) W) (fun W => typeText_big y (by simp [Ty.write] at h; omega) W) w
  | .thunk x, h, w => typeText_thunk x h (fun W => typeText_big x (by simp [Ty.write] at h; omega) W) w
  | .ret x, h, w => typeText_ret x h (fun W => typeText_big x (by simp [Ty.write] at h; omega) W) w
  | .fn x y, h, w => typeText_fn x y h (fun W => typeText_big x (by simp [Ty.write] at h; omega) W) (fun W => typeText_big y (by simp [Ty.write] at h; omega) W) w
  | .choice x y, h, w => typeText_choice x y h (fun W => typeText_big x (by simp [Ty.write] at h; omega) W) (fun W => typeText_big y (by simp [Ty.write] at h; omega) W) w
theorem typeText_any (t : Ty) (h : t.write.length ≤ 12000) (w : World) : Calls Tryz.prog 61 #[t.val] w fun e w' => e = .returned (.string t.text) ∧ Below w.heap.size w w' := typeText_big t (by omega) w
end Go.Proofs.YtagifgekhboinaaGreatDoor

namespace Go.Proofs.YtagifgekhboinaaGreatDoor
open Go.RowKit

/-- A count is known up to a limit. -/
def capped (n : Nat) : Option Nat := if n ≤ 5000 then some n else none
def Ty.cnt : Ty → Option Nat
  | .bit => some 2
  | .pair a b => match a.cnt, b.cnt with
    | some x, some y => capped (x * y)
    | _, _ => none
  | .thunk c => c.cnt
  | .ret a => match a.cnt with
    | some x => capped ((2 * x + 1) * (2 * x + 1))
    | none => none
  | .fn a c => match a.cnt, c.cnt with
    | some x, some y => capped (y ^ x)
    | _, _ => none
  | .choice c d => match c.cnt, d.cnt with
    | some x, some y => capped (x * y)
    | _, _ => none
/-- A count as a number, -1 where it is not known. -/
def cntV : Option Nat → Int
  | some n => n
  | none => -1
theorem capped_some {n m : Nat} (h : capped n = some m) : m = n ∧ n ≤ 5000 := by
  unfold capped at h; split at h
  · simp at h; exact ⟨h.symm, by assumption⟩
  · simp at h
theorem two_pow (y : Nat) (hy : 2 ≤ y) : ∀ x, 1 ≤ x → 2 ≤ y ^ x
  | 0, h => by omega
  | x + 1, _ => by rw [Nat.pow_succ]; exact Nat.le_trans hy (Nat.le_mul_of_pos_left y (Nat.pow_pos (by omega)))
theorem cnt_range : ∀ (t : Ty) (n : Nat), t.cnt = some n → 2 ≤ n ∧ n ≤ 5000
  | .bit, n, h => by simp [Ty.cnt] at h; omega
  | .pair a b, n, h => by
    rw [Ty.cnt] at h; split at h
    · rename_i x y hx hy
      have h1 := cnt_range a x hx; have h2 := cnt_range b y hy; have := capped_some h
      have h3 : 2 * 2 ≤ x * y := Nat.mul_le_mul h1.1 h2.1
      omega
    · simp at h
  | .thunk c, n, h => cnt_range c n h
  | .ret a, n, h => by
    rw [Ty.cnt] at h; split at h
    · rename_i x hx
      have h1 := cnt_range a x hx; have := capped_some h
      have h3 : 5 * 5 ≤ (2 * x + 1) * (2 * x + 1) := Nat.mul_le_mul (by omega) (by omega)
      omega
    · simp at h
  | .fn a c, n, h => by
    rw [Ty.cnt] at h; split at h
    · rename_i x y hx hy
      have h1 := cnt_range a x hx; have h2 := cnt_range c y hy; have := capped_some h
      have := two_pow y h2.1 x (by omega)
      omega
    · simp at h
  | .choice a b, n, h => by
    rw [Ty.cnt] at h; split at h
    · rename_i x y hx hy
      have h1 := cnt_range a x hx; have h2 := cnt_range b y hy; have := capped_some h
      have h3 : 2 * 2 ≤ x * y := Nat.mul_le_mul h1.1 h2.1
      omega
    · simp at h
theorem min_pow (y i : Nat) (hy : 1 ≤ y) : min 5001 (min 5001 (y ^ i) * y) = min 5001 (y ^ (i + 1)) := by
  rw [Nat.pow_succ]
  by_cases h : y ^ i ≤ 5001
  · rw [Nat.min_eq_right h]
  · rw [show min 5001 (y ^ i) = 5001 from Nat.min_eq_left (by omega)]
    have h1 : 5001 * 1 ≤ 5001 * y := Nat.mul_le_mul_left _ hy
    have h2 : 5001 * 1 ≤ y ^ i * y := Nat.mul_le_mul (by omega) hy
    omega

set_option maxRecDepth 100000 in
set_option maxHeartbeats 2000000 in
theorem l1Count_neg1 {w : World} {b cap : Nat} {x : ByteArray} {a1 : ByteArray} {p1 : Option Addr} {n1 m1 : Nat} {z1 : Int} (hcap : 2 ≤ cap ∧ cap ≤ maxLen) (c0 : w.cell? ⟨b, 0, none⟩ = some (.string x)) (c2 : w.cell? ⟨b, 2, none⟩ = some (.string a1)) (c3 : w.cell? ⟨b, 3, none⟩ = some (.slice p1 n1 m1)) (H1 : ∀ W, Kept w W → w.heap.size ≤ W.heap.size → Calls Tryz.prog 21 #[.agg #[.string a1, .slice p1 n1 m1]] W fun e w' => e = .returned (.int .i64 z1) ∧ Below W.heap.size W w') (hz : z1 < 0) :
    Calls Tryz.prog 21 #[.agg #[.string ByteArray.empty, .slice (some ⟨b, 0, none⟩) 2 cap]] w fun e w' => e = .returned (.int .i64 (-1)) ∧ Below w.heap.size w w' := by
  have hmc : cap ≤ 9223372036854775807 := by have := hcap.2; unfold maxLen at this; omega
  have HC1 := hid H1
  have K0 := hid c0
  have K2 := hid c2
  have K3 := hid c3
  have g2 : ∀ o, (w.alloc o).cell? ⟨b, 2, none⟩ = _ := fun o => (World.cell?_of_block (w := w) (heap_alloc_old w o (World.block_lt_of_cell? w _ c2))).trans c2
  have g3 : ∀ o, (w.alloc o).cell? ⟨b, 3, none⟩ = _ := fun o => (World.cell?_of_block (w := w) (heap_alloc_old w o (World.block_lt_of_cell? w _ c3))).trans c3

  clear H1
  go_enter Tryz.func21, Tryz.ntmps21
  go_wp2_with (go_at_call 21; refine (HC1.out _ ((Kept.refl w).alloc (Nat.le_refl _) _) (by simp)).mono ?_; rintro e w1 ⟨rfl, hb1⟩; have hz1 := hb1.size; have kb1 := hid (((Kept.refl w).alloc (Nat.le_refl _) (.cells #[.string ByteArray.empty, .slice (some ⟨b, 0, none⟩) 2 cap] 48)).below hb1 (by simp)); have e1 := cells_of_pair (block_below (heap_new w (.cells #[.string ByteArray.empty, .slice (some ⟨b, 0, none⟩) 2 cap] 48) w.heap.size rfl) hb1 (by simp)); have d0 := kb1.out.cell K0.out; have d2 := kb1.out.cell K2.out; have d3 := kb1.out.cell K3.out)
  go_ret
  exact ⟨rfl, (((Below.refl _ _).alloc (by simp) _).trans ((hb1.mono (by simp))))⟩

set_option maxRecDepth 100000 in
set_option maxHeartbeats 2000000 in
theorem l1Count_u {w : World} {b cap : Nat} {x : ByteArray} {a1 : ByteArray} {p1 : Option Addr} {n1 m1 : Nat} {z1 : Int} (hcap : 2 ≤ cap ∧ cap ≤ maxLen) (c0 : w.cell? ⟨b, 0, none⟩ = some (.string x)) (c2 : w.cell? ⟨b, 2, none⟩ = some (.string a1)) (c3 : w.cell? ⟨b, 3, none⟩ = some (.slice p1 n1 m1)) (H1 : ∀ W, Kept w W → w.heap.size ≤ W.heap.size → Calls Tryz.prog 21 #[.agg #[.string a1, .slice p1 n1 m1]] W fun e w' => e = .returned (.int .i64 z1) ∧ Below W.heap.size W w') (hz : 0 ≤ z1) (hhi : z1 ≤ 5000) (hx : x.toList = [117]) :
    Calls Tryz.prog 21 #[.agg #[.string ByteArray.empty, .slice (some ⟨b, 0, none⟩) 2 cap]] w fun e w' => e = .returned (.int .i64 z1) ∧ Below w.heap.size w w' := by
  have hmc : cap ≤ 9223372036854775807 := by have := hcap.2; unfold maxLen at this; omega
  have HC1 := hid H1
  have K0 := hid c0
  have K2 := hid c2
  have K3 := hid c3
  have g2 : ∀ o, (w.alloc o).cell? ⟨b, 2, none⟩ = _ := fun o => (World.cell?_of_block (w := w) (heap_alloc_old w o (World.block_lt_of_cell? w _ c2))).trans c2
  have g3 : ∀ o, (w.alloc o).cell? ⟨b, 3, none⟩ = _ := fun o => (World.cell?_of_block (w := w) (heap_alloc_old w o (World.block_lt_of_cell? w _ c3))).trans c3
  have t42 : (x.toList == [42]) = false := by rw [hx]; rfl
  have t38 : (x.toList == [38]) = false := by rw [hx]; rfl
  have t102 : (x.toList == [102]) = false := by rw [hx]; rfl
  have t62 : (x.toList == [62]) = false := by rw [hx]; rfl
  clear hx
  clear H1
  go_enter Tryz.func21, Tryz.ntmps21
  go_wp2_with (go_at_call 21; refine (HC1.out _ ((Kept.refl w).alloc (Nat.le_refl _) _) (by simp)).mono ?_; rintro e w1 ⟨rfl, hb1⟩; have hz1 := hb1.size; have kb1 := hid (((Kept.refl w).alloc (Nat.le_refl _) (.cells #[.string ByteArray.empty, .slice (some ⟨b, 0, none⟩) 2 cap] 48)).below hb1 (by simp)); have e1 := cells_of_pair (block_below (heap_new w (.cells #[.string ByteArray.empty, .slice (some ⟨b, 0, none⟩) 2 cap] 48) w.heap.size rfl) hb1 (by simp)); have d0 := kb1.out.cell K0.out; have d2 := kb1.out.cell K2.out; have d3 := kb1.out.cell K3.out)
  go_ret
  exact ⟨rfl, (((Below.refl _ _).alloc (by simp) _).trans ((hb1.mono (by simp))))⟩

set_option maxRecDepth 100000 in
set_option maxHeartbeats 2000000 in
theorem l1Count_f {w : World} {b cap : Nat} {x : ByteArray} {a1 : ByteArray} {p1 : Option Addr} {n1 m1 : Nat} {z1 : Int} (hcap : 2 ≤ cap ∧ cap ≤ maxLen) (c0 : w.cell? ⟨b, 0, none⟩ = some (.string x)) (c2 : w.cell? ⟨b, 2, none⟩ = some (.string a1)) (c3 : w.cell? ⟨b, 3, none⟩ = some (.slice p1 n1 m1)) (H1 : ∀ W, Kept w W → w.heap.size ≤ W.heap.size → Calls Tryz.prog 21 #[.agg #[.string a1, .slice p1 n1 m1]] W fun e w' => e = .returned (.int .i64 z1) ∧ Below W.heap.size W w') (hz : 0 ≤ z1) (hhi : z1 ≤ 5000) (hx : x.toList = [102]) (hP : (2 * z1 + 1) * (2 * z1 + 1) ≤ 5000) :
    Calls Tryz.prog 21 #[.agg #[.string ByteArray.empty, .slice (some ⟨b, 0, none⟩) 2 cap]] w fun e w' => e = .returned (.int .i64 ((2 * z1 + 1) * (2 * z1 + 1))) ∧ Below w.heap.size w w' := by
  have hmc : cap ≤ 9223372036854775807 := by have := hcap.2; unfold maxLen at this; omega
  have HC1 := hid H1
  have K0 := hid c0
  have K2 := hid c2
  have K3 := hid c3
  have g2 : ∀ o, (w.alloc o).cell? ⟨b, 2, none⟩ = _ := fun o => (World.cell?_of_block (w := w) (heap_alloc_old w o (World.block_lt_of_cell? w _ c2))).trans c2
  have g3 : ∀ o, (w.alloc o).cell? ⟨b, 3, none⟩ = _ := fun o => (World.cell?_of_block (w := w) (heap_alloc_old w o (World.block_lt_of_cell? w _ c3))).trans c3
  have t42 : (x.toList == [42]) = false := by rw [hx]; rfl
  have t38 : (x.toList == [38]) = false := by rw [hx]; rfl
  have t102 : (x.toList == [102]) = true := by rw [hx]; rfl
  have t62 : (x.toList == [62]) = false := by rw [hx]; rfl
  clear hx
  have hb0 : 0 ≤ (2 * z1 + 1) * (2 * z1 + 1) := Int.mul_nonneg (by omega) (by omega)
  have hb9 : (2 * z1 + 1) * (2 * z1 + 1) ≤ 10001 * 10001 := Int.mul_le_mul (by omega) (by omega) (by omega) (by omega)
  clear H1
  go_enter Tryz.func21, Tryz.ntmps21
  go_wp2_with (go_at_call 21; refine (HC1.out _ ((Kept.refl w).alloc (Nat.le_refl _) _) (by simp)).mono ?_; rintro e w1 ⟨rfl, hb1⟩; have hz1 := hb1.size; have kb1 := hid (((Kept.refl w).alloc (Nat.le_refl _) (.cells #[.string ByteArray.empty, .slice (some ⟨b, 0, none⟩) 2 cap] 48)).below hb1 (by simp)); have e1 := cells_of_pair (block_below (heap_new w (.cells #[.string ByteArray.empty, .slice (some ⟨b, 0, none⟩) 2 cap] 48) w.heap.size rfl) hb1 (by simp)); have d0 := kb1.out.cell K0.out; have d2 := kb1.out.cell K2.out; have d3 := kb1.out.cell K3.out)
  go_ret
  exact ⟨rfl, (((Below.refl _ _).alloc (by simp) _).trans ((hb1.mono (by simp))))⟩

set_option maxRecDepth 100000 in
set_option maxHeartbeats 2000000 in
theorem l1Count_f_no {w : World} {b cap : Nat} {x : ByteArray} {a1 : ByteArray} {p1 : Option Addr} {n1 m1 : Nat} {z1 : Int} (hcap : 2 ≤ cap ∧ cap ≤ maxLen) (c0 : w.cell? ⟨b, 0, none⟩ = some (.string x)) (c2 : w.cell? ⟨b, 2, none⟩ = some (.string a1)) (c3 : w.cell? ⟨b, 3, none⟩ = some (.slice p1 n1 m1)) (H1 : ∀ W, Kept w W → w.heap.size ≤ W.heap.size → Calls Tryz.prog 21 #[.agg #[.string a1, .slice p1 n1 m1]] W fun e w' => e = .returned (.int .i64 z1) ∧ Below W.heap.size W w') (hz : 0 ≤ z1) (hhi : z1 ≤ 5000) (hx : x.toList = [102]) (hP : 5000 < (2 * z1 + 1) * (2 * z1 + 1)) :
    Calls Tryz.prog 21 #[.agg #[.string ByteArray.empty, .slice (some ⟨b, 0, none⟩) 2 cap]] w fun e w' => e = .returned (.int .i64 (-1)) ∧ Below w.heap.size w w' := by
  have hmc : cap ≤ 9223372036854775807 := by have := hcap.2; unfold maxLen at this; omega
  have HC1 := hid H1
  have K0 := hid c0
  have K2 := hid c2
  have K3 := hid c3
  have g2 : ∀ o, (w.alloc o).cell? ⟨b, 2, none⟩ = _ := fun o => (World.cell?_of_block (w := w) (heap_alloc_old w o (World.block_lt_of_cell? w _ c2))).trans c2
  have g3 : ∀ o, (w.alloc o).cell? ⟨b, 3, none⟩ = _ := fun o => (World.cell?_of_block (w := w) (heap_alloc_old w o (World.block_lt_of_cell? w _ c3))).trans c3
  have t42 : (x.toList == [42]) = false := by rw [hx]; rfl
  have t38 : (x.toList == [38]) = false := by rw [hx]; rfl
  have t102 : (x.toList == [102]) = true := by rw [hx]; rfl
  have t62 : (x.toList == [62]) = false := by rw [hx]; rfl
  clear hx
  have hb0 : 0 ≤ (2 * z1 + 1) * (2 * z1 + 1) := Int.mul_nonneg (by omega) (by omega)
  have hb9 : (2 * z1 + 1) * (2 * z1 + 1) ≤ 10001 * 10001 := Int.mul_le_mul (by omega) (by omega) (by omega) (by omega)
  clear H1
  go_enter Tryz.func21, Tryz.ntmps21
  go_wp2_with (go_at_call 21; refine (HC1.out _ ((Kept.refl w).alloc (Nat.le_refl _) _) (by simp)).mono ?_; rintro e w1 ⟨rfl, hb1⟩; have hz1 := hb1.size; have kb1 := hid (((Kept.refl w).alloc (Nat.le_refl _) (.cells #[.string ByteArray.empty, .slice (some ⟨b, 0, none⟩) 2 cap] 48)).below hb1 (by simp)); have e1 := cells_of_pair (block_below (heap_new w (.cells #[.string ByteArray.empty, .slice (some ⟨b, 0, none⟩) 2 cap] 48) w.heap.size rfl) hb1 (by simp)); have d0 := kb1.out.cell K0.out; have d2 := kb1.out.cell K2.out; have d3 := kb1.out.cell K3.out)
  go_ret
  exact ⟨rfl, (((Below.refl _ _).alloc (by simp) _).trans ((hb1.mono (by simp))))⟩

set_option maxRecDepth 100000 in
set_option maxHeartbeats 2000000 in
theorem l1Count_neg2a {w : World} {b cap : Nat} {x : ByteArray} {a1 : ByteArray} {p1 : Option Addr} {n1 m1 : Nat} {z1 : Int} {a2 : ByteArray} {p2 : Option Addr} {n2 m2 : Nat} {z2 : Int} (hcap : 3 ≤ cap ∧ cap ≤ maxLen) (c0 : w.cell? ⟨b, 0, none⟩ = some (.string x)) (c2 : w.cell? ⟨b, 2, none⟩ = some (.string a1)) (c3 : w.cell? ⟨b, 3, none⟩ = some (.slice p1 n1 m1)) (c4 : w.cell? ⟨b, 4, none⟩ = some (.string a2)) (c5 : w.cell? ⟨b, 5, none⟩ = some (.slice p2 n2 m2)) (H1 : ∀ W, Kept w W → w.heap.size ≤ W.heap.size → Calls Tryz.prog 21 #[.agg #[.string a1, .slice p1 n1 m1]] W fun e w' => e = .returned (.int .i64 z1) ∧ Below W.heap.size W w') (H2 : ∀ W, Kept w W → w.heap.size ≤ W.heap.size → Calls Tryz.prog 21 #[.agg #[.string a2, .slice p2 n2 m2]] W fun e w' => e = .returned (.int .i64 z2) ∧ Below W.heap.size W w') (hz : z1 < 0) :
    Calls Tryz.prog 21 #[.agg #[.string ByteArray.empty, .slice (some ⟨b, 0, none⟩) 3 cap]] w fun e w' => e = .returned (.int .i64 (-1)) ∧ Below w.heap.size w w' := by
  have hmc : cap ≤ 9223372036854775807 := by have := hcap.2; unfold maxLen at this; omega
  have HC1 := hid H1
  have HC2 := hid H2
  have K0 := hid c0
  have K2 := hid c2
  have K3 := hid c3
  have K4 := hid c4
  have K5 := hid c5
  have g2 : ∀ o, (w.alloc o).cell? ⟨b, 2, none⟩ = _ := fun o => (World.cell?_of_block (w := w) (heap_alloc_old w o (World.block_lt_of_cell? w _ c2))).trans c2
  have g3 : ∀ o, (w.alloc o).cell? ⟨b, 3, none⟩ = _ := fun o => (World.cell?_of_block (w := w) (heap_alloc_old w o (World.block_lt_of_cell? w _ c3))).trans c3

  clear H1 H2
  go_enter Tryz.func21, Tryz.ntmps21
  go_wp2_with (first | (go_at_call 21; have _ := kb1; refine (HC2.out _ kb1.out (by simp at hz1; omega)).mono ?_; rintro e w2 ⟨rfl, hb2⟩; have hz2 := hb2.size; have kb2 := hid ((kb1.out).below hb2 (by simp at hz1; omega)); have e2 := cells_of_pair (block_below (block_below (heap_new w (.cells #[.string ByteArray.empty, .slice (some ⟨b, 0, none⟩) 3 cap] 48) w.heap.size rfl) hb1 (by simp)) hb2 (by simp at hz1; omega)); have f0 := kb2.out.cell K0.out) | (go_at_call 21; refine (HC1.out _ ((Kept.refl w).alloc (Nat.le_refl _) _) (by simp)).mono ?_; rintro e w1 ⟨rfl, hb1⟩; have hz1 := hb1.size; have kb1 := hid (((Kept.refl w).alloc (Nat.le_refl _) (.cells #[.string ByteArray.empty, .slice (some ⟨b, 0, none⟩) 3 cap] 48)).below hb1 (by simp)); have e1 := cells_of_pair (block_below (heap_new w (.cells #[.string ByteArray.empty, .slice (some ⟨b, 0, none⟩) 3 cap] 48) w.heap.size rfl) hb1 (by simp)); have d0 := kb1.out.cell K0.out; have d2 := kb1.out.cell K2.out; have d3 := kb1.out.cell K3.out; have d4 := kb1.out.cell K4.out; have d5 := kb1.out.cell K5.out))
  go_ret
  exact ⟨rfl, (((Below.refl _ _).alloc (by simp) _).trans ((hb1.mono (by simp)).trans (hb2.mono (by simp at hz1; omega))))⟩

set_option maxRecDepth 100000 in
set_option maxHeartbeats 2000000 in
theorem l1Count_neg2b {w : World} {b cap : Nat} {x : ByteArray} {a1 : ByteArray} {p1 : Option Addr} {n1 m1 : Nat} {z1 : Int} {a2 : ByteArray} {p2 : Option Addr} {n2 m2 : Nat} {z2 : Int} (hcap : 3 ≤ cap ∧ cap ≤ maxLen) (c0 : w.cell? ⟨b, 0, none⟩ = some (.string x)) (c2 : w.cell? ⟨b, 2, none⟩ = some (.string a1)) (c3 : w.cell? ⟨b, 3, none⟩ = some (.slice p1 n1 m1)) (c4 : w.cell? ⟨b, 4, none⟩ = some (.string a2)) (c5 : w.cell? ⟨b, 5, none⟩ = some (.slice p2 n2 m2)) (H1 : ∀ W, Kept w W → w.heap.size ≤ W.heap.size → Calls Tryz.prog 21 #[.agg #[.string a1, .slice p1 n1 m1]] W fun e w' => e = .returned (.int .i64 z1) ∧ Below W.heap.size W w') (H2 : ∀ W, Kept w W → w.heap.size ≤ W.heap.size → Calls Tryz.prog 21 #[.agg #[.string a2, .slice p2 n2 m2]] W fun e w' => e = .returned (.int .i64 z2) ∧ Below W.heap.size W w') (hz : 0 ≤ z1) (hz2 : z2 < 0) :
    Calls Tryz.prog 21 #[.agg #[.string ByteArray.empty, .slice (some ⟨b, 0, none⟩) 3 cap]] w fun e w' => e = .returned (.int .i64 (-1)) ∧ Below w.heap.size w w' := by
  have hmc : cap ≤ 9223372036854775807 := by have := hcap.2; unfold maxLen at this; omega
  have HC1 := hid H1
  have HC2 := hid H2
  have K0 := hid c0
  have K2 := hid c2
  have K3 := hid c3
  have K4 := hid c4
  have K5 := hid c5
  have g2 : ∀ o, (w.alloc o).cell? ⟨b, 2, none⟩ = _ := fun o => (World.cell?_of_block (w := w) (heap_alloc_old w o (World.block_lt_of_cell? w _ c2))).trans c2
  have g3 : ∀ o, (w.alloc o).cell? ⟨b, 3, none⟩ = _ := fun o => (World.cell?_of_block (w := w) (heap_alloc_old w o (World.block_lt_of_cell? w _ c3))).trans c3

  clear H1 H2
  go_enter Tryz.func21, Tryz.ntmps21
  go_wp2_with (first | (go_at_call 21; have _ := kb1; refine (HC2.out _ kb1.out (by simp at hz1; omega)).mono ?_; rintro e w2 ⟨rfl, hb2⟩; have hz2 := hb2.size; have kb2 := hid ((kb1.out).below hb2 (by simp at hz1; omega)); have e2 := cells_of_pair (block_below (block_below (heap_new w (.cells #[.string ByteArray.empty, .slice (some ⟨b, 0, none⟩) 3 cap] 48) w.heap.size rfl) hb1 (by simp)) hb2 (by simp at hz1; omega)); have f0 := kb2.out.cell K0.out) | (go_at_call 21; refine (HC1.out _ ((Kept.refl w).alloc (Nat.le_refl _) _) (by simp)).mono ?_; rintro e w1 ⟨rfl, hb1⟩; have hz1 := hb1.size; have kb1 := hid (((Kept.refl w).alloc (Nat.le_refl _) (.cells #[.string ByteArray.empty, .slice (some ⟨b, 0, none⟩) 3 cap] 48)).below hb1 (by simp)); have e1 := cells_of_pair (block_below (heap_new w (.cells #[.string ByteArray.empty, .slice (some ⟨b, 0, none⟩) 3 cap] 48) w.heap.size rfl) hb1 (by simp)); have d0 := kb1.out.cell K0.out; have d2 := kb1.out.cell K2.out; have d3 := kb1.out.cell K3.out; have d4 := kb1.out.cell K4.out; have d5 := kb1.out.cell K5.out))
  go_ret
  exact ⟨rfl, (((Below.refl _ _).alloc (by simp) _).trans ((hb1.mono (by simp)).trans (hb2.mono (by simp at hz1; omega))))⟩

set_option maxRecDepth 100000 in
set_option maxHeartbeats 2000000 in
theorem l1Count_pair {w : World} {b cap : Nat} {x : ByteArray} {a1 : ByteArray} {p1 : Option Addr} {n1 m1 : Nat} {z1 : Int} {a2 : ByteArray} {p2 : Option Addr} {n2 m2 : Nat} {z2 : Int} (hcap : 3 ≤ cap ∧ cap ≤ maxLen) (c0 : w.cell? ⟨b, 0, none⟩ = some (.string x)) (c2 : w.cell? ⟨b, 2, none⟩ = some (.string a1)) (c3 : w.cell? ⟨b, 3, none⟩ = some (.slice p1 n1 m1)) (c4 : w.cell? ⟨b, 4, none⟩ = some (.string a2)) (c5 : w.cell? ⟨b, 5, none⟩ = some (.slice p2 n2 m2)) (H1 : ∀ W, Kept w W → w.heap.size ≤ W.heap.size → Calls Tryz.prog 21 #[.agg #[.string a1, .slice p1 n1 m1]] W fun e w' => e = .returned (.int .i64 z1) ∧ Below W.heap.size W w') (H2 : ∀ W, Kept w W → w.heap.size ≤ W.heap.size → Calls Tryz.prog 21 #[.agg #[.string a2, .slice p2 n2 m2]] W fun e w' => e = .returned (.int .i64 z2) ∧ Below W.heap.size W w') (hz : 0 ≤ z1) (hhi : z1 ≤ 5000) (hz2 : 0 ≤ z2) (hhi2 : z2 ≤ 5000) (hx : x.toList = [42]) (hP : z1 * z2 ≤ 5000) :
    Calls Tryz.prog 21 #[.agg #[.string ByteArray.empty, .slice (some ⟨b, 0, none⟩) 3 cap]] w fun e w' => e = .returned (.int .i64 (z1 * z2)) ∧ Below w.heap.size w w' := by
  have hmc : cap ≤ 9223372036854775807 := by have := hcap.2; unfold maxLen at this; omega
  have HC1 := hid H1
  have HC2 := hid H2
  have K0 := hid c0
  have K2 := hid c2
  have K3 := hid c3
  have K4 := hid c4
  have K5 := hid c5
  have g2 : ∀ o, (w.alloc o).cell? ⟨b, 2, none⟩ = _ := fun o => (World.cell?_of_block (w := w) (heap_alloc_old w o (World.block_lt_of_cell? w _ c2))).trans c2
  have g3 : ∀ o, (w.alloc o).cell? ⟨b, 3, none⟩ = _ := fun o => (World.cell?_of_block (w := w) (heap_alloc_old w o (World.block_lt_of_cell? w _ c3))).trans c3
  have t42 : (x.toList == [42]) = true := by rw [hx]; rfl
  have t38 : (x.toList == [38]) = false := by rw [hx]; rfl
  have t102 : (x.toList == [102]) = false := by rw [hx]; rfl
  have t62 : (x.toList == [62]) = false := by rw [hx]; rfl
  clear hx
  have hb0 : 0 ≤ z1 * z2 := Int.mul_nonneg (by omega) (by omega)
  have hb9 : z1 * z2 ≤ 5000 * 5000 := Int.mul_le_mul (by omega) (by omega) (by omega) (by omega)
  clear H1 H2
  go_enter Tryz.func21, Tryz.ntmps21
  go_wp2_with (first | (go_at_call 21; have _ := kb1; refine (HC2.out _ kb1.out (by simp at hz1; omega)).mono ?_; rintro e w2 ⟨rfl, hb2⟩; have hz2 := hb2.size; have kb2 := hid ((kb1.out).below hb2 (by simp at hz1; omega)); have e2 := cells_of_pair (block_below (block_below (heap_new w (.cells #[.string ByteArray.empty, .slice (some ⟨b, 0, none⟩) 3 cap] 48) w.heap.size rfl) hb1 (by simp)) hb2 (by simp at hz1; omega)); have f0 := kb2.out.cell K0.out) | (go_at_call 21; refine (HC1.out _ ((Kept.refl w).alloc (Nat.le_refl _) _) (by simp)).mono ?_; rintro e w1 ⟨rfl, hb1⟩; have hz1 := hb1.size; have kb1 := hid (((Kept.refl w).alloc (Nat.le_refl _) (.cells #[.string ByteArray.empty, .slice (some ⟨b, 0, none⟩) 3 cap] 48)).below hb1 (by simp)); have e1 := cells_of_pair (block_below (heap_new w (.cells #[.string ByteArray.empty, .slice (some ⟨b, 0, none⟩) 3 cap] 48) w.heap.size rfl) hb1 (by simp)); have d0 := kb1.out.cell K0.out; have d2 := kb1.out.cell K2.out; have d3 := kb1.out.cell K3.out; have d4 := kb1.out.cell K4.out; have d5 := kb1.out.cell K5.out))
  go_ret
  exact ⟨rfl, (((Below.refl _ _).alloc (by simp) _).trans ((hb1.mono (by simp)).trans (hb2.mono (by simp at hz1; omega))))⟩

set_option maxRecDepth 100000 in
set_option maxHeartbeats 2000000 in
theorem l1Count_pair_no {w : World} {b cap : Nat} {x : ByteArray} {a1 : ByteArray} {p1 : Option Addr} {n1 m1 : Nat} {z1 : Int} {a2 : ByteArray} {p2 : Option Addr} {n2 m2 : Nat} {z2 : Int} (hcap : 3 ≤ cap ∧ cap ≤ maxLen) (c0 : w.cell? ⟨b, 0, none⟩ = some (.string x)) (c2 : w.cell? ⟨b, 2, none⟩ = some (.string a1)) (c3 : w.cell? ⟨b, 3, none⟩ = some (.slice p1 n1 m1)) (c4 : w.cell? ⟨b, 4, none⟩ = some (.string a2)) (c5 : w.cell? ⟨b, 5, none⟩ = some (.slice p2 n2 m2)) (H1 : ∀ W, Kept w W → w.heap.size ≤ W.heap.size → Calls Tryz.prog 21 #[.agg #[.string a1, .slice p1 n1 m1]] W fun e w' => e = .returned (.int .i64 z1) ∧ Below W.heap.size W w') (H2 : ∀ W, Kept w W → w.heap.size ≤ W.heap.size → Calls Tryz.prog 21 #[.agg #[.string a2, .slice p2 n2 m2]] W fun e w' => e = .returned (.int .i64 z2) ∧ Below W.heap.size W w') (hz : 0 ≤ z1) (hhi : z1 ≤ 5000) (hz2 : 0 ≤ z2) (hhi2 : z2 ≤ 5000) (hx : x.toList = [42]) (hP : 5000 < z1 * z2) :
    Calls Tryz.prog 21 #[.agg #[.string ByteArray.empty, .slice (some ⟨b, 0, none⟩) 3 cap]] w fun e w' => e = .returned (.int .i64 (-1)) ∧ Below w.heap.size w w' := by
  have hmc : cap ≤ 9223372036854775807 := by have := hcap.2; unfold maxLen at this; omega
  have HC1 := hid H1
  have HC2 := hid H2
  have K0 := hid c0
  have K2 := hid c2
  have K3 := hid c3
  have K4 := hid c4
  have K5 := hid c5
  have g2 : ∀ o, (w.alloc o).cell? ⟨b, 2, none⟩ = _ := fun o => (World.cell?_of_block (w := w) (heap_alloc_old w o (World.block_lt_of_cell? w _ c2))).trans c2
  have g3 : ∀ o, (w.alloc o).cell? ⟨b, 3, none⟩ = _ := fun o => (World.cell?_of_block (w := w) (heap_alloc_old w o (World.block_lt_of_cell? w _ c3))).trans c3
  have t42 : (x.toList == [42]) = true := by rw [hx]; rfl
  have t38 : (x.toList == [38]) = false := by rw [hx]; rfl
  have t102 : (x.toList == [102]) = false := by rw [hx]; rfl
  have t62 : (x.toList == [62]) = false := by rw [hx]; rfl
  clear hx
  have hb0 : 0 ≤ z1 * z2 := Int.mul_nonneg (by omega) (by omega)
  have hb9 : z1 * z2 ≤ 5000 * 5000 := Int.mul_le_mul (by omega) (by omega) (by omega) (by omega)
  clear H1 H2
  go_enter Tryz.func21, Tryz.ntmps21
  go_wp2_with (first | (go_at_call 21; have _ := kb1; refine (HC2.out _ kb1.out (by simp at hz1; omega)).mono ?_; rintro e w2 ⟨rfl, hb2⟩; have hz2 := hb2.size; have kb2 := hid ((kb1.out).below hb2 (by simp at hz1; omega)); have e2 := cells_of_pair (block_below (block_below (heap_new w (.cells #[.string ByteArray.empty, .slice (some ⟨b, 0, none⟩) 3 cap] 48) w.heap.size rfl) hb1 (by simp)) hb2 (by simp at hz1; omega)); have f0 := kb2.out.cell K0.out) | (go_at_call 21; refine (HC1.out _ ((Kept.refl w).alloc (Nat.le_refl _) _) (by simp)).mono ?_; rintro e w1 ⟨rfl, hb1⟩; have hz1 := hb1.size; have kb1 := hid (((Kept.refl w).alloc (Nat.le_refl _) (.cells #[.string ByteArray.empty, .slice (some ⟨b, 0, none⟩) 3 cap] 48)).below hb1 (by simp)); have e1 := cells_of_pair (block_below (heap_new w (.cells #[.string ByteArray.empty, .slice (some ⟨b, 0, none⟩) 3 cap] 48) w.heap.size rfl) hb1 (by simp)); have d0 := kb1.out.cell K0.out; have d2 := kb1.out.cell K2.out; have d3 := kb1.out.cell K3.out; have d4 := kb1.out.cell K4.out; have d5 := kb1.out.cell K5.out))
  go_ret
  exact ⟨rfl, (((Below.refl _ _).alloc (by simp) _).trans ((hb1.mono (by simp)).trans (hb2.mono (by simp at hz1; omega))))⟩

set_option maxRecDepth 100000 in
set_option maxHeartbeats 2000000 in
theorem l1Count_choice {w : World} {b cap : Nat} {x : ByteArray} {a1 : ByteArray} {p1 : Option Addr} {n1 m1 : Nat} {z1 : Int} {a2 : ByteArray} {p2 : Option Addr} {n2 m2 : Nat} {z2 : Int} (hcap : 3 ≤ cap ∧ cap ≤ maxLen) (c0 : w.cell? ⟨b, 0, none⟩ = some (.string x)) (c2 : w.cell? ⟨b, 2, none⟩ = some (.string a1)) (c3 : w.cell? ⟨b, 3, none⟩ = some (.slice p1 n1 m1)) (c4 : w.cell? ⟨b, 4, none⟩ = some (.string a2)) (c5 : w.cell? ⟨b, 5, none⟩ = some (.slice p2 n2 m2)) (H1 : ∀ W, Kept w W → w.heap.size ≤ W.heap.size → Calls Tryz.prog 21 #[.agg #[.string a1, .slice p1 n1 m1]] W fun e w' => e = .returned (.int .i64 z1) ∧ Below W.heap.size W w') (H2 : ∀ W, Kept w W → w.heap.size ≤ W.heap.size → Calls Tryz.prog 21 #[.agg #[.string a2, .slice p2 n2 m2]] W fun e w' => e = .returned (.int .i64 z2) ∧ Below W.heap.size W w') (hz : 0 ≤ z1) (hhi : z1 ≤ 5000) (hz2 : 0 ≤ z2) (hhi2 : z2 ≤ 5000) (hx : x.toList = [38]) (hP : z1 * z2 ≤ 5000) :
    Calls Tryz.prog 21 #[.agg #[.string ByteArray.empty, .slice (some ⟨b, 0, none⟩) 3 cap]] w fun e w' => e = .returned (.int .i64 (z1 * z2)) ∧ Below w.heap.size w w' := by
  have hmc : cap ≤ 9223372036854775807 := by have := hcap.2; unfold maxLen at this; omega
  have HC1 := hid H1
  have HC2 := hid H2
  have K0 := hid c0
  have K2 := hid c2
  have K3 := hid c3
  have K4 := hid c4
  have K5 := hid c5
  have g2 : ∀ o, (w.alloc o).cell? ⟨b, 2, none⟩ = _ := fun o => (World.cell?_of_block (w := w) (heap_alloc_old w o (World.block_lt_of_cell? w _ c2))).trans c2
  have g3 : ∀ o, (w.alloc o).cell? ⟨b, 3, none⟩ = _ := fun o => (World.cell?_of_block (w := w) (heap_alloc_old w o (World.block_lt_of_cell? w _ c3))).trans c3
  have t42 : (x.toList == [42]) = false := by rw [hx]; rfl
  have t38 : (x.toList == [38]) = true := by rw [hx]; rfl
  have t102 : (x.toList == [102]) = false := by rw [hx]; rfl
  have t62 : (x.toList == [62]) = false := by rw [hx]; rfl
  clear hx
  have hb0 : 0 ≤ z1 * z2 := Int.mul_nonneg (by omega) (by omega)
  have hb9 : z1 * z2 ≤ 5000 * 5000 := Int.mul_le_mul (by omega) (by omega) (by omega) (by omega)
  clear H1 H2
  go_enter Tryz.func21, Tryz.ntmps21
  go_wp2_with (first | (go_at_call 21; have _ := kb1; refine (HC2.out _ kb1.out (by simp at hz1; omega)).mono ?_; rintro e w2 ⟨rfl, hb2⟩; have hz2 := hb2.size; have kb2 := hid ((kb1.out).below hb2 (by simp at hz1; omega)); have e2 := cells_of_pair (block_below (block_below (heap_new w (.cells #[.string ByteArray.empty, .slice (some ⟨b, 0, none⟩) 3 cap] 48) w.heap.size rfl) hb1 (by simp)) hb2 (by simp at hz1; omega)); have f0 := kb2.out.cell K0.out) | (go_at_call 21; refine (HC1.out _ ((Kept.refl w).alloc (Nat.le_refl _) _) (by simp)).mono ?_; rintro e w1 ⟨rfl, hb1⟩; have hz1 := hb1.size; have kb1 := hid (((Kept.refl w).alloc (Nat.le_refl _) (.cells #[.string ByteArray.empty, .slice (some ⟨b, 0, none⟩) 3 cap] 48)).below hb1 (by simp)); have e1 := cells_of_pair (block_below (heap_new w (.cells #[.string ByteArray.empty, .slice (some ⟨b, 0, none⟩) 3 cap] 48) w.heap.size rfl) hb1 (by simp)); have d0 := kb1.out.cell K0.out; have d2 := kb1.out.cell K2.out; have d3 := kb1.out.cell K3.out; have d4 := kb1.out.cell K4.out; have d5 := kb1.out.cell K5.out))
  go_ret
  exact ⟨rfl, (((Below.refl _ _).alloc (by simp) _).trans ((hb1.mono (by simp)).trans (hb2.mono (by simp at hz1; omega))))⟩

set_option maxRecDepth 100000 in
set_option maxHeartbeats 2000000 in
theorem l1Count_choice_no {w : World} {b cap : Nat} {x : ByteArray} {a1 : ByteArray} {p1 : Option Addr} {n1 m1 : Nat} {z1 : Int} {a2 : ByteArray} {p2 : Option Addr} {n2 m2 : Nat} {z2 : Int} (hcap : 3 ≤ cap ∧ cap ≤ maxLen) (c0 : w.cell? ⟨b, 0, none⟩ = some (.string x)) (c2 : w.cell? ⟨b, 2, none⟩ = some (.string a1)) (c3 : w.cell? ⟨b, 3, none⟩ = some (.slice p1 n1 m1)) (c4 : w.cell? ⟨b, 4, none⟩ = some (.string a2)) (c5 : w.cell? ⟨b, 5, none⟩ = some (.slice p2 n2 m2)) (H1 : ∀ W, Kept w W → w.heap.size ≤ W.heap.size → Calls Tryz.prog 21 #[.agg #[.string a1, .slice p1 n1 m1]] W fun e w' => e = .returned (.int .i64 z1) ∧ Below W.heap.size W w') (H2 : ∀ W, Kept w W → w.heap.size ≤ W.heap.size → Calls Tryz.prog 21 #[.agg #[.string a2, .slice p2 n2 m2]] W fun e w' => e = .returned (.int .i64 z2) ∧ Below W.heap.size W w') (hz : 0 ≤ z1) (hhi : z1 ≤ 5000) (hz2 : 0 ≤ z2) (hhi2 : z2 ≤ 5000) (hx : x.toList = [38]) (hP : 5000 < z1 * z2) :
    Calls Tryz.prog 21 #[.agg #[.string ByteArray.empty, .slice (some ⟨b, 0, none⟩) 3 cap]] w fun e w' => e = .returned (.int .i64 (-1)) ∧ Below w.heap.size w w' := by
  have hmc : cap ≤ 9223372036854775807 := by have := hcap.2; unfold maxLen at this; omega
  have HC1 := hid H1
  have HC2 := hid H2
  have K0 := hid c0
  have K2 := hid c2
  have K3 := hid c3
  have K4 := hid c4
  have K5 := hid c5
  have g2 : ∀ o, (w.alloc o).cell? ⟨b, 2, none⟩ = _ := fun o => (World.cell?_of_block (w := w) (heap_alloc_old w o (World.block_lt_of_cell? w _ c2))).trans c2
  have g3 : ∀ o, (w.alloc o).cell? ⟨b, 3, none⟩ = _ := fun o => (World.cell?_of_block (w := w) (heap_alloc_old w o (World.block_lt_of_cell? w _ c3))).trans c3
  have t42 : (x.toList == [42]) = false := by rw [hx]; rfl
  have t38 : (x.toList == [38]) = true := by rw [hx]; rfl
  have t102 : (x.toList == [102]) = false := by rw [hx]; rfl
  have t62 : (x.toList == [62]) = false := by rw [hx]; rfl
  clear hx
  have hb0 : 0 ≤ z1 * z2 := Int.mul_nonneg (by omega) (by omega)
  have hb9 : z1 * z2 ≤ 5000 * 5000 := Int.mul_le_mul (by omega) (by omega) (by omega) (by omega)
  clear H1 H2
  go_enter Tryz.func21, Tryz.ntmps21
  go_wp2_with (first | (go_at_call 21; have _ := kb1; refine (HC2.out _ kb1.out (by simp at hz1; omega)).mono ?_; rintro e w2 ⟨rfl, hb2⟩; have hz2 := hb2.size; have kb2 := hid ((kb1.out).below hb2 (by simp at hz1; omega)); have e2 := cells_of_pair (block_below (block_below (heap_new w (.cells #[.string ByteArray.empty, .slice (some ⟨b, 0, none⟩) 3 cap] 48) w.heap.size rfl) hb1 (by simp)) hb2 (by simp at hz1; omega)); have f0 := kb2.out.cell K0.out) | (go_at_call 21; refine (HC1.out _ ((Kept.refl w).alloc (Nat.le_refl _) _) (by simp)).mono ?_; rintro e w1 ⟨rfl, hb1⟩; have hz1 := hb1.size; have kb1 := hid (((Kept.refl w).alloc (Nat.le_refl _) (.cells #[.string ByteArray.empty, .slice (some ⟨b, 0, none⟩) 3 cap] 48)).below hb1 (by simp)); have e1 := cells_of_pair (block_below (heap_new w (.cells #[.string ByteArray.empty, .slice (some ⟨b, 0, none⟩) 3 cap] 48) w.heap.size rfl) hb1 (by simp)); have d0 := kb1.out.cell K0.out; have d2 := kb1.out.cell K2.out; have d3 := kb1.out.cell K3.out; have d4 := kb1.out.cell K4.out; have d5 := kb1.out.cell K5.out))
  go_ret
  exact ⟨rfl, (((Below.refl _ _).alloc (by simp) _).trans ((hb1.mono (by simp)).trans (hb2.mono (by simp at hz1; omega))))⟩

set_option maxRecDepth 100000 in
set_option maxHeartbeats 2000000 in
theorem l1Count_fn {w : World} {b cap : Nat} {x : ByteArray} {a1 : ByteArray} {p1 : Option Addr} {n1 m1 : Nat} {m k : Nat} {a2 : ByteArray} {p2 : Option Addr} {n2 m2 : Nat} (hcap : 3 ≤ cap ∧ cap ≤ maxLen) (c0 : w.cell? ⟨b, 0, none⟩ = some (.string x)) (c2 : w.cell? ⟨b, 2, none⟩ = some (.string a1)) (c3 : w.cell? ⟨b, 3, none⟩ = some (.slice p1 n1 m1)) (c4 : w.cell? ⟨b, 4, none⟩ = some (.string a2)) (c5 : w.cell? ⟨b, 5, none⟩ = some (.slice p2 n2 m2)) (H1 : ∀ W, Kept w W → w.heap.size ≤ W.heap.size → Calls Tryz.prog 21 #[.agg #[.string a1, .slice p1 n1 m1]] W fun e w' => e = .returned (.int .i64 (m : Int)) ∧ Below W.heap.size W w') (H2 : ∀ W, Kept w W → w.heap.size ≤ W.heap.size → Calls Tryz.prog 21 #[.agg #[.string a2, .slice p2 n2 m2]] W fun e w' => e = .returned (.int .i64 (k : Int)) ∧ Below W.heap.size W w') (hk : 1 ≤ k) (hk2 : k ≤ 5000) (hm : m ≤ 5000) (hx : x.toList = [62]) :
    Calls Tryz.prog 21 #[.agg #[.string ByteArray.empty, .slice (some ⟨b, 0, none⟩) 3 cap]] w fun e w' => e = .returned (.int .i64 (cntV (capped (k ^ m)))) ∧ Below w.heap.size w w' := by
  have hmc : cap ≤ 9223372036854775807 := by have := hcap.2; unfold maxLen at this; omega
  have HC1 := hid H1
  have HC2 := hid H2
  have K0 := hid c0
  have K2 := hid c2
  have K3 := hid c3
  have K4 := hid c4
  have K5 := hid c5
  have g2 : ∀ o, (w.alloc o).cell? ⟨b, 2, none⟩ = _ := fun o => (World.cell?_of_block (w := w) (heap_alloc_old w o (World.block_lt_of_cell? w _ c2))).trans c2
  have g3 : ∀ o, (w.alloc o).cell? ⟨b, 3, none⟩ = _ := fun o => (World.cell?_of_block (w := w) (heap_alloc_old w o (World.block_lt_of_cell? w _ c3))).trans c3
  have t42 : (x.toList == [42]) = false := by rw [hx]; rfl
  have t38 : (x.toList == [38]) = false := by rw [hx]; rfl
  have t102 : (x.toList == [102]) = false := by rw [hx]; rfl
  have t62 : (x.toList == [62]) = true := by rw [hx]; rfl
  clear hx
  clear H1 H2
  go_enter Tryz.func21, Tryz.ntmps21
  go_wp2_with (first | (go_at_call 21; have _ := kb1; refine (HC2.out _ kb1.out (by simp at hz1; omega)).mono ?_; rintro e w2 ⟨rfl, hb2⟩; have hz2 := hb2.size; have kb2 := hid ((kb1.out).below hb2 (by simp at hz1; omega)); have e2 := cells_of_pair (block_below (block_below (heap_new w (.cells #[.string ByteArray.empty, .slice (some ⟨b, 0, none⟩) 3 cap] 48) w.heap.size rfl) hb1 (by simp)) hb2 (by simp at hz1; omega)); have f0 := kb2.out.cell K0.out) | (go_at_call 21; refine (HC1.out _ ((Kept.refl w).alloc (Nat.le_refl _) _) (by simp)).mono ?_; rintro e w1 ⟨rfl, hb1⟩; have hz1 := hb1.size; have kb1 := hid (((Kept.refl w).alloc (Nat.le_refl _) (.cells #[.string ByteArray.empty, .slice (some ⟨b, 0, none⟩) 3 cap] 48)).below hb1 (by simp)); have e1 := cells_of_pair (block_below (heap_new w (.cells #[.string ByteArray.empty, .slice (some ⟨b, 0, none⟩) 3 cap] 48) w.heap.size rfl) hb1 (by simp)); have d0 := kb1.out.cell K0.out; have d2 := kb1.out.cell K2.out; have d3 := kb1.out.cell K3.out; have d4 := kb1.out.cell K4.out; have d5 := kb1.out.cell K5.out))
  go_loopw [5, 6] (fun v u wr => ∃ (i o : Nat), i ≤ m ∧ u = .int .i64 (i : Int) ∧ v = .int .i64 (o : Int) ∧ o ≤ 5001 ∧ Hid (o = min 5001 (k ^ i)) ∧ Below w2.heap.size w2 wr) (fun _ u _ => m - (intOf u).toNat)
  case atStart => exact ⟨0, 1, Nat.zero_le _, rfl, rfl, by decide, hid (by simp), Below.refl _ _⟩
  case round =>
    obtain ⟨i, o, hi, rfl, rfl, ho, hop, hbel⟩ := hrel
    by_cases hlt : i < m
    · have hb0 : 0 ≤ (o : Int) * (k : Int) := Int.mul_nonneg (by omega) (by omega)
      have hb9 : (o : Int) * (k : Int) ≤ 5001 * 5000 := Int.mul_le_mul (by omega) (by omega) (by omega) (by omega)
      go_wp2_with fail
      go_roundw
      case rel =>
        exact ⟨i + 1, min 5001 (o * k), by omega, by go_num, by rw [show ((min 5001 (o * k) : Nat) : Int) = min 5001 ((o : Int) * k) by rw [← Int.natCast_mul]; omega], Nat.min_le_left _ _, hid (by rw [hop.out, min_pow k i (by omega)]), hbel⟩
      case measure => simp [intOf]; omega
    · have him : i = m := by omega
      have HI := hid him
      clear him
      have hop2 := hop.out
      rw [HI.out] at hop2
      have HOP := hid hop2
      clear hop2
      by_cases hbig : 5000 < o
      · have HG := hid hbig
        go_wp2_with fail
        go_ret
        refine ⟨ret_int ?_, ((((Below.refl _ _).alloc (by simp) _).trans ((hb1.mono (by simp)).trans (hb2.mono (by simp at hz1; omega))))).trans (hbel.mono (by simp at hz1; omega))⟩
        have := HOP.out
        rw [capped, if_neg (by omega)]; rfl
      · go_wp2_with fail
        go_ret
        refine ⟨ret_int ?_, ((((Below.refl _ _).alloc (by simp) _).trans ((hb1.mono (by simp)).trans (hb2.mono (by simp at hz1; omega))))).trans (hbel.mono (by simp at hz1; omega))⟩
        have := HOP.out
        rw [capped, if_pos (by omega), cntV]
        omega

theorem tyParts_cases {L : List UInt8} {ks : List Ty} {ty : Ty} (h : tyParts L ks = some ty) :
    (∃ a b, L = [42] ∧ ks = [a, b] ∧ ty = .pair a b) ∨ (∃ a b, L = [62] ∧ ks = [a, b] ∧ ty = .fn a b) ∨ (∃ a b, L = [38] ∧ ks = [a, b] ∧ ty = .choice a b) ∨ (∃ a, L = [117] ∧ ks = [a] ∧ ty = .thunk a) ∨ (∃ a, L = [102] ∧ ks = [a] ∧ ty = .ret a) := by
  unfold tyParts at h
  split at h
  · split at h
    · rename_i c; simp at h; subst h; exact .inl ⟨_, _, c.1, rfl, rfl⟩
    · split at h
      · rename_i c; simp at h; subst h; exact .inr (.inl ⟨_, _, c.1, rfl, rfl⟩)
      · split at h
        · rename_i c; simp at h; subst h; exact .inr (.inr (.inl ⟨_, _, c.1, rfl, rfl⟩))
        · simp at h
  · split at h
    · rename_i c; simp at h; subst h; exact .inr (.inr (.inr (.inl ⟨_, c.1, rfl, rfl⟩)))
    · split at h
      · rename_i c; simp at h; subst h; exact .inr (.inr (.inr (.inr ⟨_, c.1, rfl, rfl⟩)))
      · simp at h
  · simp at h
theorem tys_one {qs : List Tree} {a : Ty} (h : Tree.tys qs = some [a]) : ∃ p, qs = [p] ∧ p.ty = some a := by
  have hl := tys_length qs _ h
  match qs, hl with
  | [p], _ =>
    obtain ⟨t, h1, h2⟩ := tys_get [p] _ h 0 p rfl
    simp at h1; subst h1; exact ⟨p, rfl, h2⟩
theorem tys_two {qs : List Tree} {a b : Ty} (h : Tree.tys qs = some [a, b]) : ∃ p q, qs = [p, q] ∧ p.ty = some a ∧ q.ty = some b := by
  have hl := tys_length qs _ h
  match qs, hl with
  | [p, q], _ =>
    obtain ⟨t, h1, h2⟩ := tys_get [p, q] _ h 0 p rfl
    obtain ⟨t', h3, h4⟩ := tys_get [p, q] _ h 1 q rfl
    simp at h1 h3; subst h1; subst h3; exact ⟨p, q, rfl, h2, h4⟩
theorem cntV_lo (o : Option Nat) (h : o = none) : cntV o < 0 := by subst h; decide
theorem cntV_some {o : Option Nat} {n : Nat} (h : o = some n) : cntV o = n := by subst h; rfl
theorem calls_as {f : FuncId} {args : Array Value} {w : World} {v u : Int} (h : v = u) (hc : Calls Tryz.prog f args w fun e w' => e = .returned (.int .i64 v) ∧ Below w.heap.size w w') : Calls Tryz.prog f args w fun e w' => e = .returned (.int .i64 u) ∧ Below w.heap.size w w' := h ▸ hc

set_option maxRecDepth 100000 in
set_option maxHeartbeats 2000000 in
theorem l1Count_any {w0 : World} {S : Nat → Prop} {t : Tree} {h : Hd} (ht : TIn w0 S t h) : ∀ ty, t.ty = some ty → ∀ w, Kept w0 w → w0.heap.size ≤ w.heap.size →
    Calls Tryz.prog 21 #[.agg #[.string h.a, .slice h.p h.l h.c]] w fun e w' => e = .returned (.int .i64 (cntV ty.cnt)) ∧ Below w.heap.size w w' := by
  induction ht with
  | atom s hne hm =>
    intro ty hty w _ _
    have he := isEmpty_not s hne
    have hb : ty = .bit := by
      rw [Tree.ty] at hty; split at hty
      · simp at hty; exact hty.symm
      · simp at hty
    subst hb
    clear hty
    go_enter Tryz.func21, Tryz.ntmps21
    go_wp2
    go_ret
    exact ⟨ret_int rfl, (Below.refl _ _).alloc (by simp) _⟩
  | node ps b cap A hp hl hc hS hA hB hps ih =>
    intro ty hty w hk hw
    obtain ⟨q, qs, rfl⟩ : ∃ q qs, ps = q :: qs := by cases ps with | nil => simp at hp | cons q qs => exact ⟨q, qs, rfl⟩
    have hq := (hps 0 q rfl).text
    rw [Tree.ty] at hty
    cases hks : Tree.tys qs with
    | none => rw [hks] at hty; simp at hty
    | some ks =>
      rw [hks] at hty; simp only at hty
      rw [← hq] at hty
      have c0 : w.cell? ⟨b, 0, none⟩ = some (.string (A 0).a) := by have := hk.cell (hA 0 hp); simpa using this
      rcases tyParts_cases hty with ⟨a, d, hL, rfl, rfl⟩ | ⟨a, d, hL, rfl, rfl⟩ | ⟨a, d, hL, rfl, rfl⟩ | ⟨a, hL, rfl, rfl⟩ | ⟨a, hL, rfl, rfl⟩
      · obtain ⟨p, r, rfl, hpt, hrt⟩ := tys_two hks
        have c2 := hk.cell (hA 1 (by simp)); have c3 := hk.cell (hB 1 (by simp)); have c4 := hk.cell (hA 2 (by simp)); have c5 := hk.cell (hB 2 (by simp))
        have H1 := fun W (hkW : Kept w W) (hs : w.heap.size ≤ W.heap.size) => ih 1 p rfl a hpt W (hk.trans hkW hw) (by omega)
        have H2 := fun W (hkW : Kept w W) (hs : w.heap.size ≤ W.heap.size) => ih 2 r rfl d hrt W (hk.trans hkW hw) (by omega)
        cases ha : a.cnt with
        | none => exact calls_as (by simp [Ty.cnt, ha, cntV]) (l1Count_neg2a ⟨hl, hc⟩ c0 c2 c3 c4 c5 H1 H2 (cntV_lo _ ha))
        | some m =>
          have r1 := cnt_range a m ha
          have v1 := cntV_some ha
          cases hd : d.cnt with
          | none => exact calls_as (by simp [Ty.cnt, ha, hd, cntV]) (l1Count_neg2b ⟨hl, hc⟩ c0 c2 c3 c4 c5 H1 H2 (by rw [v1]; omega) (cntV_lo _ hd))
          | some k =>
            have r2 := cnt_range d k hd
            have v2 := cntV_some hd
            rw [v1] at H1
            rw [v2] at H2
            by_cases hb : m * k ≤ 5000
            · exact calls_as (by simp [Ty.cnt, ha, hd, capped, hb, cntV]) (l1Count_pair ⟨hl, hc⟩ c0 c2 c3 c4 c5 H1 H2 (by omega) (by omega) (by omega) (by omega) hL (by rw [← Int.natCast_mul]; omega))
            · exact calls_as (by simp [Ty.cnt, ha, hd, capped, hb, cntV]) (l1Count_pair_no ⟨hl, hc⟩ c0 c2 c3 c4 c5 H1 H2 (by omega) (by omega) (by omega) (by omega) hL (by rw [← Int.natCast_mul]; omega))
      · obtain ⟨p, r, rfl, hpt, hrt⟩ := tys_two hks
        have c2 := hk.cell (hA 1 (by simp)); have c3 := hk.cell (hB 1 (by simp)); have c4 := hk.cell (hA 2 (by simp)); have c5 := hk.cell (hB 2 (by simp))
        have H1 := fun W (hkW : Kept w W) (hs : w.heap.size ≤ W.heap.size) => ih 1 p rfl a hpt W (hk.trans hkW hw) (by omega)
        have H2 := fun W (hkW : Kept w W) (hs : w.heap.size ≤ W.heap.size) => ih 2 r rfl d hrt W (hk.trans hkW hw) (by omega)
        cases ha : a.cnt with
        | none => exact calls_as (by simp [Ty.cnt, ha, cntV]) (l1Count_neg2a ⟨hl, hc⟩ c0 c2 c3 c4 c5 H1 H2 (cntV_lo _ ha))
        | some m =>
          have r1 := cnt_range a m ha
          have v1 := cntV_some ha
          cases hd : d.cnt with
          | none => exact calls_as (by simp [Ty.cnt, ha, hd, cntV]) (l1Count_neg2b ⟨hl, hc⟩ c0 c2 c3 c4 c5 H1 H2 (by rw [v1]; omega) (cntV_lo _ hd))
          | some k =>
            have r2 := cnt_range d k hd
            have v2 := cntV_some hd
            rw [v1] at H1
            rw [v2] at H2
            exact calls_as (by simp [Ty.cnt, ha, hd]) (l1Count_fn ⟨hl, hc⟩ c0 c2 c3 c4 c5 H1 H2 (by omega) (by omega) (by omega) hL)
      · obtain ⟨p, r, rfl, hpt, hrt⟩ := tys_two hks
        have c2 := hk.cell (hA 1 (by simp)); have c3 := hk.cell (hB 1 (by simp)); have c4 := hk.cell (hA 2 (by simp)); have c5 := hk.cell (hB 2 (by simp))
        have H1 := fun W (hkW : Kept w W) (hs : w.heap.size ≤ W.heap.size) => ih 1 p rfl a hpt W (hk.trans hkW hw) (by omega)
        have H2 := fun W (hkW : Kept w W) (hs : w.heap.size ≤ W.heap.size) => ih 2 r rfl d hrt W (hk.trans hkW hw) (by omega)
        cases ha : a.cnt with
        | none => exact calls_as (by simp [Ty.cnt, ha, cntV]) (l1Count_neg2a ⟨hl, hc⟩ c0 c2 c3 c4 c5 H1 H2 (cntV_lo _ ha))
        | some m =>
          have r1 := cnt_range a m ha
          have v1 := cntV_some ha
          cases hd : d.cnt with
          | none => exact calls_as (by simp [Ty.cnt, ha, hd, cntV]) (l1Count_neg2b ⟨hl, hc⟩ c0 c2 c3 c4 c5 H1 H2 (by rw [v1]; omega) (cntV_lo _ hd))
          | some k =>
            have r2 := cnt_range d k hd
            have v2 := cntV_some hd
            rw [v1] at H1
            rw [v2] at H2
            by_cases hb : m * k ≤ 5000
            · exact calls_as (by simp [Ty.cnt, ha, hd, capped, hb, cntV]) (l1Count_choice ⟨hl, hc⟩ c0 c2 c3 c4 c5 H1 H2 (by omega) (by omega) (by omega) (by omega) hL (by rw [← Int.natCast_mul]; omega))
            · exact calls_as (by simp [Ty.cnt, ha, hd, capped, hb, cntV]) (l1Count_choice_no ⟨hl, hc⟩ c0 c2 c3 c4 c5 H1 H2 (by omega) (by omega) (by omega) (by omega) hL (by rw [← Int.natCast_mul]; omega))
      · obtain ⟨p, rfl, hpt⟩ := tys_one hks
        have c2 := hk.cell (hA 1 (by simp)); have c3 := hk.cell (hB 1 (by simp))
        have H1 := fun W (hkW : Kept w W) (hs : w.heap.size ≤ W.heap.size) => ih 1 p rfl a hpt W (hk.trans hkW hw) (by omega)
        cases ha : a.cnt with
        | none => exact calls_as (by simp [Ty.cnt, ha, cntV]) (l1Count_neg1 ⟨hl, hc⟩ c0 c2 c3 H1 (cntV_lo _ ha))
        | some m =>
          have r1 := cnt_range a m ha
          have v1 := cntV_some ha
          rw [v1] at H1
          exact calls_as (by simp [Ty.cnt, ha, cntV]) (l1Count_u ⟨hl, hc⟩ c0 c2 c3 H1 (by omega) (by omega) hL)
      · obtain ⟨p, rfl, hpt⟩ := tys_one hks
        have c2 := hk.cell (hA 1 (by simp)); have c3 := hk.cell (hB 1 (by simp))
        have H1 := fun W (hkW : Kept w W) (hs : w.heap.size ≤ W.heap.size) => ih 1 p rfl a hpt W (hk.trans hkW hw) (by omega)
        cases ha : a.cnt with
        | none => exact calls_as (by simp [Ty.cnt, ha, cntV]) (l1Count_neg1 ⟨hl, hc⟩ c0 c2 c3 H1 (cntV_lo _ ha))
        | some m =>
          have r1 := cnt_range a m ha
          have v1 := cntV_some ha
          rw [v1] at H1
          have hz : (2 * (m : Int) + 1) * (2 * (m : Int) + 1) = (((2 * m + 1) * (2 * m + 1) : Nat) : Int) := by simp
          by_cases hb : (2 * m + 1) * (2 * m + 1) ≤ 5000
          · exact calls_as (by simp [Ty.cnt, ha, capped, hb, cntV]) (l1Count_f ⟨hl, hc⟩ c0 c2 c3 H1 (by omega) (by omega) hL (by rw [hz]; omega))
          · exact calls_as (by simp [Ty.cnt, ha, capped, hb, cntV]) (l1Count_f_no ⟨hl, hc⟩ c0 c2 c3 H1 (by omega) (by omega) hL (by rw [hz]; omega))
/-- What TypeCount tells. -/
def cntO (o : Option Ty) : Int := match o with
  | some ty => cntV ty.cnt
  | none => -1
end Go.Proofs.YtagifgekhboinaaGreatDoor

namespace Go.Proofs.YtagifgekhboinaaGreatDoor
open Go.RowKit

theorem outcomes_any (z : Int) (h0 : 0 ≤ z) (h1 : z ≤ 5000) (w : World) : Calls Tryz.prog 100 #[.int .i64 z] w fun e w' => e = .returned (.int .i64 (2 * z + 1)) ∧ w' = w := by
  go_enter Tryz.func100, Tryz.ntmps100
  go_wp2_with fail
  go_ret
  exact ⟨rfl, rfl⟩
/-- A power's number as the program tells it: itself up to the limit, else some number beyond. -/
def powOk (y x : Nat) (z : Int) : Prop := (z ≤ 5000 → z = ((y ^ x : Nat) : Int) ∧ y ^ x ≤ 5000) ∧ (5000 < z → 5000 < y ^ x)
/-- The program's way to a power. -/
def pw (y : Nat) : Nat → Nat → Nat
  | 0, o => o
  | r + 1, o => if 5000 < o * y then o * y else pw y r (o * y)
theorem pw_spec (y : Nat) (hy : 1 ≤ y) (hy2 : y ≤ 5000) : ∀ r o, o ≤ 5000 → (pw y r o ≤ 5000 → pw y r o = o * y ^ r) ∧ (5000 < pw y r o → 5000 < o * y ^ r) ∧ pw y r o ≤ 25000000
  | 0, o, h => ⟨fun _ => by simp [pw], fun hz => by simp [pw] at hz; omega, by simp [pw]; omega⟩
  | r + 1, o, h => by
    have hm : o * y ≤ 5000 * 5000 := Nat.mul_le_mul h hy2
    have he : o * y ^ (r + 1) = o * y * y ^ r := by rw [Nat.pow_succ, Nat.mul_comm (y ^ r) y, Nat.mul_assoc]
    rw [pw, he]
    by_cases hb : 5000 < o * y
    · rw [if_pos hb]
      have h1 : o * y * 1 ≤ o * y * y ^ r := Nat.mul_le_mul_left _ (Nat.pow_pos hy)
      exact ⟨fun h => by omega, fun _ => by omega, hm⟩
    · rw [if_neg hb]
      exact pw_spec y hy hy2 r (o * y) (by omega)
theorem pw_ok (y x : Nat) (hy : 1 ≤ y) (hy2 : y ≤ 5000) : powOk y x (pw y x 1 : Nat) := by
  have h := pw_spec y hy hy2 x 1 (by decide)
  rw [Nat.one_mul] at h
  exact ⟨fun hz => by have := h.1 (by omega); rw [this] at hz ⊢; exact ⟨rfl, by omega⟩, fun hz => h.2.1 (by omega)⟩
set_option maxRecDepth 100000 in
set_option maxHeartbeats 1000000 in
theorem countPower_any (y x : Nat) (hy2 : y ≤ 5000) (hx : x ≤ 5000) (w : World) : Calls Tryz.prog 101 #[.int .i64 (y : Int), .int .i64 (x : Int)] w fun e w' => e = .returned (.int .i64 ((pw y x 1 : Nat) : Int)) ∧ w' = w := by
  obtain ⟨T, hT⟩ : ∃ T, pw y x 1 = T := ⟨_, rfl⟩
  rw [hT]
  have HT := hid hT
  clear hT
  go_enter Tryz.func101, Tryz.ntmps101
  go_wp2_with fail
  go_loopw [5, 7] (fun v u wr => ∃ (i o : Nat), i ≤ x ∧ u = .int .i64 (i : Int) ∧ v = .int .i64 (o : Int) ∧ o ≤ 5000 ∧ Hid (pw y (x - i) o = T) ∧ wr = w) (fun _ u _ => x - (intOf u).toNat)
  case atStart => exact ⟨0, 1, Nat.zero_le _, rfl, rfl, by decide, HT, rfl⟩
  case round =>
    obtain ⟨i, o, hi, rfl, rfl, ho, hop, rfl⟩ := hrel
    by_cases hlt : i < x
    · have hm : o * y ≤ 5000 * 5000 := Nat.mul_le_mul ho hy2
      obtain ⟨q, hq⟩ : ∃ q, o * y = q := ⟨_, rfl⟩
      have hqi : (o : Int) * (y : Int) = (q : Int) := by rw [← hq]; simp
      have hop2 := hop.out
      rw [show x - i = (x - (i + 1)) + 1 by omega, pw, hq] at hop2
      have HOP := hid hop2
      rw [hq] at hm
      clear hop2 hq
      by_cases hbig : 5000 < q
      · go_wp2_with fail
        go_ret
        have h3 := HOP.out
        rw [if_pos hbig] at h3
        exact ⟨ret_int (by rw [h3]), rfl⟩
      · go_wp2_with fail
        go_roundw
        case rel =>
          have h3 := HOP.out
          rw [if_neg hbig] at h3
          exact ⟨i + 1, q, by omega, by go_num, rfl, by omega, hid h3, by first | trivial | rfl⟩
        case measure => simp [intOf]; omega
    · have hix : i = x := by omega
      have HI := hid hix
      clear hix
      go_wp2_with fail
      go_ret
      have h2 := hop.out
      rw [HI.out, Nat.sub_self, pw] at h2
      exact ⟨ret_int (by rw [h2]), rfl⟩
/-- What a head's count from its parts' counts tells. -/
def fromOk (t : Ty) (z : Int) : Prop := 0 ≤ z ∧ (z ≤ 5000 → cntV t.cnt = z) ∧ (5000 < z → t.cnt = none)
/-- What countFrom leaves. -/
def FromPost (t : Ty) (w : World) (e : Ending) (w' : World) : Prop := (∃ z : Int, e = .returned (.int .i64 z) ∧ fromOk t z ∧ z ≤ 200000000) ∧ Below w.heap.size w w'
theorem fromOk_nat {t : Ty} {n : Nat} (h : t.cnt = capped n) : fromOk t (n : Int) := by
  refine ⟨by omega, fun hz => ?_, fun hz => ?_⟩
  · rw [h, capped, if_pos (by omega)]; rfl
  · rw [h, capped, if_neg (by omega)]
theorem cell_alloc_old {w : World} {a : Addr} {v : Value} (h : w.cell? a = some v) (o : Obj) : (w.alloc o).cell? a = some v := (World.cell?_of_block (w := w) (heap_alloc_old w o (World.block_lt_of_cell? w _ h))).trans h

set_option maxRecDepth 100000 in
set_option maxHeartbeats 1000000 in
theorem countFrom_pair (tx ty : Ty) (x y g c : Nat) (w : World) (hx : tx.cnt = some x) (hy : ty.cnt = some y) (c0 : w.cell? ⟨g, 0, none⟩ = some (.int .i64 (x : Int))) (c1 : w.cell? ⟨g, 1, none⟩ = some (.int .i64 (y : Int))) :
    Calls Tryz.prog 172 #[.agg #[tx.val, ty.val], .slice (some ⟨g, 0, none⟩) 2 c] w (FromPost (.pair tx ty) w) := by
  have r1 := cnt_range tx x hx
  have r2 := cnt_range ty y hy
  have hok := hid (fromOk_nat (t := .pair tx ty) (n := x * y) (by simp [Ty.cnt, hx, hy]))
  obtain ⟨ux, vx, hvx⟩ := tx.val_iface
  rw [hvx]
  obtain ⟨uy, vy, hvy⟩ := ty.val_iface
  rw [hvy]
  have a0 := fun o => cell_alloc_old c0 o
  have a1 := fun o => cell_alloc_old c1 o
  have hm : x * y ≤ 5000 * 5000 := Nat.mul_le_mul r1.2 r2.2
  obtain ⟨q, hq⟩ : ∃ q, x * y = q := ⟨_, rfl⟩
  have hqi : (x : Int) * (y : Int) = (q : Int) := by rw [← hq]; simp
  rw [hq] at hm
  have HQ := hid hq
  clear hq hx hy hvx hvy c0 c1
  go_enter Tryz.func172, Tryz.ntmps172
  go_wp2_with fail
  go_quiet (fail)
  go_wp2_with fail
  go_ret
  refine ⟨⟨(q : Int), ret_int (by first | rfl | omega), ?_, by omega⟩, below_drewN ((Below.refl _ _).alloc (by simp) _) _⟩
  rw [← HQ.out]; exact hok.out

set_option maxRecDepth 100000 in
set_option maxHeartbeats 1000000 in
theorem countFrom_choice (tx ty : Ty) (x y g c : Nat) (w : World) (hx : tx.cnt = some x) (hy : ty.cnt = some y) (c0 : w.cell? ⟨g, 0, none⟩ = some (.int .i64 (x : Int))) (c1 : w.cell? ⟨g, 1, none⟩ = some (.int .i64 (y : Int))) :
    Calls Tryz.prog 176 #[.agg #[tx.val, ty.val], .slice (some ⟨g, 0, none⟩) 2 c] w (FromPost (.choice tx ty) w) := by
  have r1 := cnt_range tx x hx
  have r2 := cnt_range ty y hy
  have hok := hid (fromOk_nat (t := .choice tx ty) (n := x * y) (by simp [Ty.cnt, hx, hy]))
  obtain ⟨ux, vx, hvx⟩ := tx.val_iface
  rw [hvx]
  obtain ⟨uy, vy, hvy⟩ := ty.val_iface
  rw [hvy]
  have a0 := fun o => cell_alloc_old c0 o
  have a1 := fun o => cell_alloc_old c1 o
  have hm : x * y ≤ 5000 * 5000 := Nat.mul_le_mul r1.2 r2.2
  obtain ⟨q, hq⟩ : ∃ q, x * y = q := ⟨_, rfl⟩
  have hqi : (x : Int) * (y : Int) = (q : Int) := by rw [← hq]; simp
  rw [hq] at hm
  have HQ := hid hq
  clear hq hx hy hvx hvy c0 c1
  go_enter Tryz.func176, Tryz.ntmps176
  go_wp2_with fail
  go_quiet (fail)
  go_wp2_with fail
  go_ret
  refine ⟨⟨(q : Int), ret_int (by first | rfl | omega), ?_, by omega⟩, below_drewN ((Below.refl _ _).alloc (by simp) _) _⟩
  rw [← HQ.out]; exact hok.out

set_option maxRecDepth 100000 in
set_option maxHeartbeats 1000000 in
theorem countFrom_thunk (tx : Ty) (x g c : Nat) (w : World) (hx : tx.cnt = some x) (c0 : w.cell? ⟨g, 0, none⟩ = some (.int .i64 (x : Int))) :
    Calls Tryz.prog 180 #[.agg #[tx.val], .slice (some ⟨g, 0, none⟩) 1 c] w (FromPost (.thunk tx) w) := by
  have r1 := cnt_range tx x hx
  have hok := hid (show fromOk (.thunk tx) (x : Int) from ⟨by omega, fun _ => by rw [Ty.cnt, hx]; rfl, fun _ => by omega⟩)
  obtain ⟨ux, vx, hvx⟩ := tx.val_iface
  rw [hvx]
  have a0 := fun o => cell_alloc_old c0 o
  clear hx hvx c0
  go_enter Tryz.func180, Tryz.ntmps180
  go_wp2_with fail
  go_ret
  exact ⟨⟨(x : Int), rfl, hok.out, by omega⟩, (Below.refl _ _).alloc (by simp) _⟩
theorem countFrom_bit (p : Option Addr) (n c : Nat) (w : World) : Calls Tryz.prog 192 #[.agg #[], .slice p n c] w (FromPost .bit w) := by
  go_enter Tryz.func192, Tryz.ntmps192
  go_wp2_with fail
  go_ret
  exact ⟨⟨2, rfl, ⟨by decide, fun _ => rfl, fun h => by omega⟩, by decide⟩, (Below.refl _ _).alloc (by simp) _⟩

set_option maxRecDepth 100000 in
set_option maxHeartbeats 1000000 in
theorem countFrom_ret (tx : Ty) (x g c : Nat) (w : World) (hx : tx.cnt = some x) (c0 : w.cell? ⟨g, 0, none⟩ = some (.int .i64 (x : Int))) :
    Calls Tryz.prog 184 #[.agg #[tx.val], .slice (some ⟨g, 0, none⟩) 1 c] w (FromPost (.ret tx) w) := by
  have r1 := cnt_range tx x hx
  have hok := hid (fromOk_nat (t := .ret tx) (n := (2 * x + 1) * (2 * x + 1)) (by simp [Ty.cnt, hx]))
  obtain ⟨ux, vx, hvx⟩ := tx.val_iface
  rw [hvx]
  have a0 := fun o => cell_alloc_old c0 o
  have hm : (2 * x + 1) * (2 * x + 1) ≤ 10001 * 10001 := Nat.mul_le_mul (by omega) (by omega)
  obtain ⟨q, hq⟩ : ∃ q, (2 * x + 1) * (2 * x + 1) = q := ⟨_, rfl⟩
  have hqi : (2 * (x : Int) + 1) * (2 * (x : Int) + 1) = (q : Int) := by rw [← hq]; simp
  rw [hq] at hm
  have HQ := hid hq
  clear hq hx hvx c0
  go_enter Tryz.func184, Tryz.ntmps184
  go_wp2_with fail
  go_quiet ((go_at_call 100; exact Calls.quiet_of_same (outcomes_any (x : Int) (by omega) (by omega) _)))
  go_wp2_with fail
  go_ret
  refine ⟨⟨(q : Int), ret_int (by first | rfl | omega), ?_, by omega⟩, below_drewN ((Below.refl _ _).alloc (by simp) _) _⟩
  rw [← HQ.out]; exact hok.out

set_option maxRecDepth 100000 in
set_option maxHeartbeats 1000000 in
theorem countFrom_fn (tx ty : Ty) (x y g c : Nat) (w : World) (hx : tx.cnt = some x) (hy : ty.cnt = some y) (c0 : w.cell? ⟨g, 0, none⟩ = some (.int .i64 (x : Int))) (c1 : w.cell? ⟨g, 1, none⟩ = some (.int .i64 (y : Int))) :
    Calls Tryz.prog 188 #[.agg #[tx.val, ty.val], .slice (some ⟨g, 0, none⟩) 2 c] w (FromPost (.fn tx ty) w) := by
  have r1 := cnt_range tx x hx
  have r2 := cnt_range ty y hy
  have hcn := hid (show (Ty.fn tx ty).cnt = capped (y ^ x) by simp [Ty.cnt, hx, hy])
  obtain ⟨ux, vx, hvx⟩ := tx.val_iface
  rw [hvx]
  obtain ⟨uy, vy, hvy⟩ := ty.val_iface
  rw [hvy]
  have a0 := fun o => cell_alloc_old c0 o
  have a1 := fun o => cell_alloc_old c1 o
  clear hx hy hvx hvy c0 c1
  go_enter Tryz.func188, Tryz.ntmps188
  go_wp2_with fail
  go_quiet ((go_at_call 101; exact Calls.quiet_of_same (countPower_any y x (by omega) (by omega) _)))
  go_wp2_with fail
  go_ret
  have HZ := pw_ok y x (by omega) (by omega)
  refine ⟨⟨((pw y x 1 : Nat) : Int), rfl, ⟨by omega, fun h => ?_, fun h => ?_⟩, by have := (pw_spec y (by omega) (by omega) x 1 (by decide)).2.2; omega⟩, below_drewN ((Below.refl _ _).alloc (by simp) _) _⟩
  · obtain ⟨h1, h2⟩ := HZ.1 h
    rw [hcn.out, capped, if_pos h2, h1]; rfl
  · have := HZ.2 h
    rw [hcn.out, capped, if_neg (by omega)]
end Go.Proofs.YtagifgekhboinaaGreatDoor

namespace Go.Proofs.YtagifgekhboinaaGreatDoor
open Go.RowKit

/-- Bits and pairs of them. -/
def Ty.vp : Ty → Bool
  | .bit => true
  | .pair a b => a.vp && b.vp
  | _ => false
/-- The value that means an element. -/
def Ty.vt : Ty → Nat → ByteArray
  | .bit, k => bitS k
  | .pair a b, k => ((({ data := #[40, 112, 97, 105, 114, 32] } : ByteArray) ++ a.vt (k / b.cnt.getD 1)) ++ ({ data := #[32] } : ByteArray)) ++ b.vt (k % b.cnt.getD 1) ++ ({ data := #[41] } : ByteArray)
  | _, _ => ByteArray.empty
theorem vt_pair (a b : Ty) (k y : Nat) (h : b.cnt = some y) : ((({ data := #[40, 112, 97, 105, 114, 32] } : ByteArray) ++ a.vt (k / y)) ++ ({ data := #[32] } : ByteArray)) ++ b.vt (k % y) ++ ({ data := #[41] } : ByteArray) = (Ty.pair a b).vt k := by
  rw [Ty.vt, h]; rfl
theorem write_len_pair (a b : Ty) : (Ty.pair a b).write.length = a.write.length + b.write.length + 5 := by
  simp [Ty.write]; omega
theorem vt_size : ∀ (t : Ty) (k : Nat), (t.vt k).size ≤ 2 * t.write.length
  | .bit, k => by simp [Ty.vt, bitS, Ty.write, ByteArray.size]
  | .pair a b, k => by
    have h1 := vt_size a (k / b.cnt.getD 1)
    have h2 := vt_size b (k % b.cnt.getD 1)
    rw [write_len_pair, Ty.vt]
    simp only [ByteArray.size_append]
    have e1 : ({ data := #[40, 112, 97, 105, 114, 32] } : ByteArray).size = 6 := rfl
    have e2 : ({ data := #[32] } : ByteArray).size = 1 := rfl
    have e3 : ({ data := #[41] } : ByteArray).size = 1 := rfl
    omega
  | .thunk _, _ => by simp [Ty.vt]
  | .ret _, _ => by simp [Ty.vt]
  | .fn _ _, _ => by simp [Ty.vt]
  | .choice _ _, _ => by simp [Ty.vt]
theorem cnt_pair {a b : Ty} {n : Nat} (h : (Ty.pair a b).cnt = some n) : ∃ x y, a.cnt = some x ∧ b.cnt = some y ∧ n = x * y := by
  rw [Ty.cnt] at h
  cases ha : a.cnt with
  | none => rw [ha] at h; cases h
  | some x =>
    cases hb : b.cnt with
    | none => rw [ha, hb] at h; cases h
    | some y =>
      rw [ha, hb] at h
      exact ⟨x, y, rfl, rfl, (capped_some h).1⟩
/-- The leaves. -/
def Ty.lv : Ty → Nat
  | .pair a b => a.lv + b.lv
  | _ => 1
theorem lv_cnt : ∀ (t : Ty) (n : Nat), t.vp = true → t.cnt = some n → 2 ^ t.lv = n ∧ t.write.length + 5 = 6 * t.lv
  | .bit, n, _, h => by simp [Ty.cnt] at h; subst h; simp [Ty.lv, Ty.write]
  | .pair a b, n, hp, h => by
    obtain ⟨x, y, hx, hy, rfl⟩ := cnt_pair h
    simp [Ty.vp] at hp
    have h1 := lv_cnt a x hp.1 hx
    have h2 := lv_cnt b y hp.2 hy
    refine ⟨by rw [Ty.lv, Nat.pow_add, h1.1, h2.1], by rw [write_len_pair, Ty.lv]; omega⟩
  | .thunk _, _, hp, _ => by simp [Ty.vp] at hp
  | .ret _, _, hp, _ => by simp [Ty.vp] at hp
  | .fn _ _, _, hp, _ => by simp [Ty.vp] at hp
  | .choice _ _, _, hp, _ => by simp [Ty.vp] at hp
theorem vp_small {t : Ty} {n : Nat} (hp : t.vp = true) (h : t.cnt = some n) : t.write.length ≤ 67 := by
  have h1 := lv_cnt t n hp h
  have h2 := (cnt_range t n h).2
  have h3 : t.lv ≤ 12 := by
    rcases Nat.lt_or_ge 12 t.lv with h4 | h4
    · have : 2 ^ 13 ≤ 2 ^ t.lv := Nat.pow_le_pow_right (by decide) h4
      omega
    · exact h4
  omega
/-- How many counts the program may keep on its way. -/
def Ty.bud : Ty → Nat
  | .pair a b => b.write.length + a.bud + b.bud
  | _ => 0
theorem bud_le : ∀ t : Ty, t.bud ≤ t.write.length * t.write.length
  | .bit => Nat.zero_le _
  | .pair a b => by
    have h1 := bud_le a
    have h2 := bud_le b
    rw [write_len_pair, Ty.bud]
    generalize a.write.length = p at *
    generalize b.write.length = q at *
    have h3 := Nat.mul_comm p q
    simp only [Nat.add_mul, Nat.mul_add]
    omega
  | .thunk _ => Nat.zero_le _
  | .ret _ => Nat.zero_le _
  | .fn _ _ => Nat.zero_le _
  | .choice _ _ => Nat.zero_le _
end Go.Proofs.YtagifgekhboinaaGreatDoor

namespace Go.Proofs.YtagifgekhboinaaGreatDoor
open Go.RowKit

/-- The new name of a number below 100. -/
def nmB (c : Nat) : ByteArray := if c < 10 then ⟨#[107, (48 + c).toUInt8]⟩ else ⟨#[107, (48 + c / 10).toUInt8, (48 + c % 10).toUInt8]⟩
def wPair : ByteArray := ⟨#[112, 97, 105, 114]⟩
def wThunk : ByteArray := ⟨#[116, 104, 117, 110, 107]⟩
def wReturn : ByteArray := ⟨#[114, 101, 116, 117, 114, 110]⟩
def wLam : ByteArray := ⟨#[108, 97, 109]⟩
def wBoth : ByteArray := ⟨#[98, 111, 116, 104]⟩
def wGet : ByteArray := ⟨#[103, 101, 116]⟩
def wPut : ByteArray := ⟨#[112, 117, 116]⟩
def wIf : ByteArray := ⟨#[105, 102]⟩
def wTo : ByteArray := ⟨#[116, 111]⟩
def wFail : ByteArray := ⟨#[102, 97, 105, 108]⟩
def bitT (k : Nat) : Tree := .atom (bitS k)
def retB (k : Nat) : Tree := .node [.atom wReturn, bitT k]
/-- The test of a bit. -/
def tbit (v : Tree) (k : Nat) : Tree := if k = 1 then .node [.atom wReturn, v] else .node [.atom wIf, v, retB 0, retB 1]
/-- The part of a defining term that is for an outcome. -/
def outD (tr : Tree) (n : Nat) (rec : Nat → Nat → Tree × Nat) (o c : Nat) : Tree × Nat :=
  if o = 0 then (.node [.atom wFail, tr], c) else (.node [.atom wPut, bitT ((o - 1) / n), .node [.atom wReturn, (rec ((o - 1) % n) c).1]], (rec ((o - 1) % n) c).2)
/-- The defining term of an element, and the next new name's number. -/
def Ty.dt : Ty → Nat → Nat → Tree × Nat
  | .bit, k, c => (bitT k, c)
  | .pair a b, k, c => (.node [.atom wPair, (a.dt (k / b.cnt.getD 1) c).1, (b.dt (k % b.cnt.getD 1) (a.dt (k / b.cnt.getD 1) c).2).1], (b.dt (k % b.cnt.getD 1) (a.dt (k / b.cnt.getD 1) c).2).2)
  | .choice a b, k, c => (.node [.atom wBoth, (a.dt (k / b.cnt.getD 1) c).1, (b.dt (k % b.cnt.getD 1) (a.dt (k / b.cnt.getD 1) c).2).1], (b.dt (k % b.cnt.getD 1) (a.dt (k / b.cnt.getD 1) c).2).2)
  | .thunk a, k, c => (.node [.atom wThunk, (a.dt k c).1], (a.dt k c).2)
  | .ret a, k, c =>
    (.node [.atom wGet, .atom (nmB c), .node [.atom wIf, .atom (nmB c), (outD (Ty.ret a).tree (a.cnt.getD 1) a.dt (k / (2 * a.cnt.getD 1 + 1)) (c + 1)).1, (outD (Ty.ret a).tree (a.cnt.getD 1) a.dt (k % (2 * a.cnt.getD 1 + 1)) (outD (Ty.ret a).tree (a.cnt.getD 1) a.dt (k / (2 * a.cnt.getD 1 + 1)) (c + 1)).2).1]],
      (outD (Ty.ret a).tree (a.cnt.getD 1) a.dt (k % (2 * a.cnt.getD 1 + 1)) (outD (Ty.ret a).tree (a.cnt.getD 1) a.dt (k / (2 * a.cnt.getD 1 + 1)) (c + 1)).2).2)
  | .fn a b, k, c =>
    (.node [.atom wLam, .atom (nmB c), a.tree, .node [.atom wTo, tbit (.atom (nmB c)) 0, .atom (nmB (c + 1)), .node [.atom wIf, .atom (nmB (c + 1)), (b.dt (k % b.cnt.getD 1) (c + 2)).1, (b.dt (k / b.cnt.getD 1 % b.cnt.getD 1) (b.dt (k % b.cnt.getD 1) (c + 2)).2).1]]],
      (b.dt (k / b.cnt.getD 1 % b.cnt.getD 1) (b.dt (k % b.cnt.getD 1) (c + 2)).2).2)
/-- How many leaves the defining terms have. -/
def Ty.lt : Ty → Nat
  | .bit => 1
  | .pair a b => a.lt + b.lt
  | .choice a b => a.lt + b.lt
  | .thunk a => a.lt
  | .ret a => 2 * a.lt
  | .fn _ b => 2 * b.lt
/-- How many atoms the model may count on its way. -/
def Ty.dat : Ty → Nat
  | .bit => 0
  | .pair a b => 2 + a.dat + b.dat
  | .choice a b => 2 + a.dat + b.dat
  | .thunk a => 1 + a.dat
  | .ret a => 11 + 2 * a.dat
  | .fn _ b => 14 + 2 * b.dat
/-- How many names a defining term takes at most. -/
def Ty.dnm : Ty → Nat
  | .bit => 0
  | .pair a b => a.dnm + b.dnm
  | .choice a b => a.dnm + b.dnm
  | .thunk a => a.dnm
  | .ret a => 1 + 2 * a.dnm
  | .fn _ b => 2 + 2 * b.dnm
/-- How many counts the program may keep on its way. -/
def Ty.dbud : Ty → Nat
  | .bit => 0
  | .pair a b => b.write.length + a.dbud + b.dbud
  | .choice a b => b.write.length + a.dbud + b.dbud
  | .thunk a => a.dbud
  | .ret a => 2 * a.write.length + 2 * a.dbud
  | .fn a b => 2 * a.write.length + 2 * b.write.length + 2 * b.dbud
theorem lt_pos : ∀ t : Ty, 1 ≤ t.lt
  | .bit => Nat.le_refl _
  | .pair a b => by have := lt_pos a; rw [Ty.lt]; omega
  | .choice a b => by have := lt_pos a; rw [Ty.lt]; omega
  | .thunk a => lt_pos a
  | .ret a => by have := lt_pos a; rw [Ty.lt]; omega
  | .fn _ b => by have := lt_pos b; rw [Ty.lt]; omega
theorem cnt_choice {a b : Ty} {n : Nat} (h : (Ty.choice a b).cnt = some n) : ∃ x y, a.cnt = some x ∧ b.cnt = some y ∧ n = x * y := by
  rw [Ty.cnt] at h
  cases ha : a.cnt with
  | none => rw [ha] at h; cases h
  | some x =>
    cases hb : b.cnt with
    | none => rw [ha, hb] at h; cases h
    | some y => rw [ha, hb] at h; exact ⟨x, y, rfl, rfl, (capped_some h).1⟩
theorem cnt_ret {a : Ty} {n : Nat} (h : (Ty.ret a).cnt = some n) : ∃ x, a.cnt = some x ∧ n = (2 * x + 1) * (2 * x + 1) := by
  rw [Ty.cnt] at h
  cases ha : a.cnt with
  | none => rw [ha] at h; cases h
  | some x => rw [ha] at h; exact ⟨x, rfl, (capped_some h).1⟩
theorem cnt_fn {a b : Ty} {n : Nat} (h : (Ty.fn a b).cnt = some n) : ∃ x y, a.cnt = some x ∧ b.cnt = some y ∧ n = y ^ x ∧ y ^ x ≤ 5000 := by
  rw [Ty.cnt] at h
  cases ha : a.cnt with
  | none => rw [ha] at h; cases h
  | some x =>
    cases hb : b.cnt with
    | none => rw [ha, hb] at h; cases h
    | some y => rw [ha, hb] at h; exact ⟨x, y, rfl, rfl, capped_some h⟩
/-- Computation types have at least 25 elements. -/
theorem cnt_comp : ∀ (t : Ty) (n : Nat), t.wf = true → t.isVal = false → t.cnt = some n → 25 ≤ n
  | .bit, _, _, h, _ => by simp [Ty.isVal] at h
  | .pair _ _, _, _, h, _ => by simp [Ty.isVal] at h
  | .thunk _, _, _, h, _ => by simp [Ty.isVal] at h
  | .ret a, n, _, _, h => by
    obtain ⟨x, hx, rfl⟩ := cnt_ret h
    have h1 := (cnt_range a x hx).1
    exact Nat.mul_le_mul (show 5 ≤ 2 * x + 1 by omega) (show 5 ≤ 2 * x + 1 by omega)
  | .fn a b, n, hw, _, h => by
    obtain ⟨x, y, hx, hy, rfl, _⟩ := cnt_fn h
    simp only [Ty.wf, Bool.and_eq_true, Bool.not_eq_true'] at hw
    have h1 := (cnt_range a x hx).1
    have h2 := cnt_comp b y hw.1.1.2 hw.2 hy
    exact Nat.le_trans h2 (Nat.le_trans (by rw [Nat.pow_one]; exact Nat.le_refl _) (Nat.pow_le_pow_right (by omega) (show 1 ≤ x by omega)))
  | .choice a b, n, hw, _, h => by
    obtain ⟨x, y, hx, hy, rfl⟩ := cnt_choice h
    simp only [Ty.wf, Bool.and_eq_true, Bool.not_eq_true'] at hw
    have h1 := cnt_comp a x hw.1.1.1 hw.1.2 hx
    have h2 := (cnt_range b y hy).1
    exact Nat.le_trans h1 (Nat.le_mul_of_pos_right _ (by omega))
/-- A function type with a known count is one from bits. -/
theorem fn_bit {a b : Ty} {n : Nat} (hw : (Ty.fn a b).wf = true) (h : (Ty.fn a b).cnt = some n) : a = .bit ∧ a.cnt = some 2 := by
  obtain ⟨x, y, hx, hy, rfl, h5⟩ := cnt_fn h
  simp only [Ty.wf, Bool.and_eq_true, Bool.not_eq_true'] at hw
  have hy25 := cnt_comp b y hw.1.1.2 hw.2 hy
  have big : ∀ m : Nat, 4 ≤ x → False := fun _ hm => by
    have h1 : 25 ^ 4 ≤ y ^ 4 := Nat.pow_le_pow_left hy25 4
    have h2 : y ^ 4 ≤ y ^ x := Nat.pow_le_pow_right (by omega) hm
    have h3 : (25 : Nat) ^ 4 = 390625 := rfl
    omega
  match a, hw, hx with
  | .bit, _, hx => exact ⟨rfl, rfl⟩
  | .pair p q, hw, hx =>
    obtain ⟨u, v, hu, hv, rfl⟩ := cnt_pair hx
    have h1 := (cnt_range p u hu).1
    have h2 := (cnt_range q v hv).1
    exact (big 0 (Nat.mul_le_mul h1 h2)).elim
  | .thunk c, hw, hx =>
    have hwc := hw.1.1.1
    simp only [Ty.wf, Bool.and_eq_true, Bool.not_eq_true'] at hwc
    have := cnt_comp c x hwc.1 hwc.2 hx
    exact (big 0 (by omega)).elim
  | .ret c, hw, _ => simp [Ty.isVal] at hw
  | .fn c d, hw, _ => simp [Ty.isVal] at hw
  | .choice c d, hw, _ => simp [Ty.isVal] at hw
/-- Two to the leaves is no more than the count. -/
theorem lt_cnt : ∀ (t : Ty) (n : Nat), t.wf = true → t.cnt = some n → 2 ^ t.lt ≤ n
  | .bit, n, _, h => by simp [Ty.cnt] at h; subst h; decide
  | .pair a b, n, hw, h => by
    obtain ⟨x, y, hx, hy, rfl⟩ := cnt_pair h
    simp only [Ty.wf, Bool.and_eq_true] at hw
    rw [Ty.lt, Nat.pow_add]
    exact Nat.mul_le_mul (lt_cnt a x hw.1.1.1 hx) (lt_cnt b y hw.1.1.2 hy)
  | .choice a b, n, hw, h => by
    obtain ⟨x, y, hx, hy, rfl⟩ := cnt_choice h
    simp only [Ty.wf, Bool.and_eq_true, Bool.not_eq_true'] at hw
    rw [Ty.lt, Nat.pow_add]
    exact Nat.mul_le_mul (lt_cnt a x hw.1.1.1 hx) (lt_cnt b y hw.1.1.2 hy)
  | .thunk a, n, hw, h => by
    simp only [Ty.wf, Bool.and_eq_true, Bool.not_eq_true'] at hw
    rw [Ty.cnt] at h
    exact lt_cnt a n hw.1 h
  | .ret a, n, hw, h => by
    obtain ⟨x, hx, rfl⟩ := cnt_ret h
    simp only [Ty.wf, Bool.and_eq_true] at hw
    have h1 := lt_cnt a x hw.1 hx
    rw [Ty.lt, Nat.two_mul, Nat.pow_add]
    exact Nat.mul_le_mul (by omega) (by omega)
  | .fn a b, n, hw, h => by
    obtain ⟨ha, h2⟩ := fn_bit hw h
    obtain ⟨x, y, hx, hy, rfl, _⟩ := cnt_fn h
    simp only [Ty.wf, Bool.and_eq_true, Bool.not_eq_true'] at hw
    rw [h2] at hx; obtain rfl : 2 = x := by simpa using hx
    have h1 := lt_cnt b y hw.1.1.2 hy
    rw [Ty.lt, Nat.two_mul, Nat.pow_add, Nat.pow_two]
    exact Nat.mul_le_mul h1 h1
theorem lt_12 {t : Ty} {n : Nat} (hw : t.wf = true) (h : t.cnt = some n) : t.lt ≤ 12 := by
  have h1 := lt_cnt t n hw h
  have h2 := (cnt_range t n h).2
  rcases Nat.lt_or_ge 12 t.lt with h4 | h4
  · have : 2 ^ 13 ≤ 2 ^ t.lt := Nat.pow_le_pow_right (by decide) h4
    omega
  · exact h4
/-- A type with a known count keeps it in its parts, and functions come from bits. -/
def Ty.kn : Ty → Bool
  | .bit => true
  | .pair a b => a.kn && b.kn && a.isVal && b.isVal
  | .choice a b => a.kn && b.kn && !a.isVal && !b.isVal
  | .thunk a => a.kn && !a.isVal
  | .ret a => a.kn && a.isVal
  | .fn a b => (a.write == [98]) && b.kn && !b.isVal
theorem kn_of : ∀ (t : Ty) (n : Nat), t.wf = true → t.cnt = some n → t.kn = true
  | .bit, _, _, _ => rfl
  | .pair a b, n, hw, h => by
    obtain ⟨x, y, hx, hy, rfl⟩ := cnt_pair h
    simp only [Ty.wf, Bool.and_eq_true] at hw
    simp [Ty.kn, kn_of a x hw.1.1.1 hx, kn_of b y hw.1.1.2 hy, hw.1.2, hw.2]
  | .choice a b, n, hw, h => by
    obtain ⟨x, y, hx, hy, rfl⟩ := cnt_choice h
    simp only [Ty.wf, Bool.and_eq_true, Bool.not_eq_true'] at hw
    simp [Ty.kn, kn_of a x hw.1.1.1 hx, kn_of b y hw.1.1.2 hy, hw.1.2, hw.2]
  | .thunk a, n, hw, h => by
    simp only [Ty.wf, Bool.and_eq_true, Bool.not_eq_true'] at hw
    rw [Ty.cnt] at h
    simp [Ty.kn, kn_of a n hw.1 h, hw.2]
  | .ret a, n, hw, h => by
    obtain ⟨x, hx, rfl⟩ := cnt_ret h
    simp only [Ty.wf, Bool.and_eq_true] at hw
    simp [Ty.kn, kn_of a x hw.1 hx, hw.2]
  | .fn a b, n, hw, h => by
    obtain ⟨ha, h2⟩ := fn_bit hw h
    obtain ⟨x, y, hx, hy, rfl, _⟩ := cnt_fn h
    simp only [Ty.wf, Bool.and_eq_true, Bool.not_eq_true'] at hw
    simp [Ty.kn, ha, Ty.write, kn_of b y hw.1.1.2 hy, hw.2]
/-- What is told of values is a little more than what is told of computations. -/
theorem kn_bounds : ∀ t : Ty, t.kn = true → (t.dat + 15 ≤ 16 * t.lt + (if t.isVal then 1 else 0)) ∧ t.dnm + 2 ≤ 2 * t.lt ∧ t.write.length + 12 ≤ 12 * t.lt + (if t.isVal then 4 else 0) ∧ t.atoms + 3 ≤ 4 * t.lt + (if t.isVal then 1 else 0) ∧ t.dbud + 4 * t.write.length ≤ 8 * t.lt * t.write.length
  | .bit, _ => by simp [Ty.dat, Ty.lt, Ty.isVal, Ty.dnm, Ty.write, Ty.atoms, Ty.dbud]
  | .pair a b, h => by
    simp only [Ty.kn, Bool.and_eq_true] at h
    have h1 := kn_bounds a h.1.1.1
    have h2 := kn_bounds b h.1.1.2
    have l1 := lt_pos a; have l2 := lt_pos b
    rw [h.1.2] at h1; rw [h.2] at h2
    have hw : (Ty.pair a b).write.length = a.write.length + b.write.length + 5 := write_len_pair a b
    simp only [if_true] at h1 h2
    refine ⟨by simp [Ty.dat, Ty.lt, Ty.isVal]; omega, by simp [Ty.dnm, Ty.lt]; omega, by rw [hw]; simp [Ty.lt, Ty.isVal]; omega, by simp [Ty.atoms, Ty.lt, Ty.isVal]; omega, ?_⟩
    rw [hw, Ty.dbud, Ty.lt]
    have e1 := h1.2.2.2.2; have e2 := h2.2.2.2.2
    generalize a.write.length = p at *; generalize b.write.length = q at *
    have m1 : p ≤ b.lt * p := Nat.le_mul_of_pos_left _ l2
    have m2 : q ≤ a.lt * q := Nat.le_mul_of_pos_left _ l1
    simp only [Nat.mul_add, Nat.add_mul, Nat.mul_assoc] at *
    omega
  | .choice a b, h => by
    simp only [Ty.kn, Bool.and_eq_true, Bool.not_eq_true'] at h
    have h1 := kn_bounds a h.1.1.1
    have h2 := kn_bounds b h.1.1.2
    have l1 := lt_pos a; have l2 := lt_pos b
    rw [h.1.2] at h1; rw [h.2] at h2
    have hw : (Ty.choice a b).write.length = a.write.length + b.write.length + 5 := by simp [Ty.write]; omega
    simp only [Bool.false_eq_true, if_false] at h1 h2
    refine ⟨by simp [Ty.dat, Ty.lt, Ty.isVal]; omega, by simp [Ty.dnm, Ty.lt]; omega, by rw [hw]; simp [Ty.lt, Ty.isVal]; omega, by simp [Ty.atoms, Ty.lt, Ty.isVal]; omega, ?_⟩
    rw [hw, Ty.dbud, Ty.lt]
    have e1 := h1.2.2.2.2; have e2 := h2.2.2.2.2
    generalize a.write.length = p at *; generalize b.write.length = q at *
    have m1 : p ≤ b.lt * p := Nat.le_mul_of_pos_left _ l2
    have m2 : q ≤ a.lt * q := Nat.le_mul_of_pos_left _ l1
    simp only [Nat.mul_add, Nat.add_mul, Nat.mul_assoc] at *
    omega
  | .thunk a, h => by
    simp only [Ty.kn, Bool.and_eq_true, Bool.not_eq_true'] at h
    have h1 := kn_bounds a h.1
    have l1 := lt_pos a
    rw [h.2] at h1
    have hw : (Ty.thunk a).write.length = a.write.length + 4 := by simp [Ty.write]
    simp only [Bool.false_eq_true, if_false] at h1
    refine ⟨by simp [Ty.dat, Ty.lt, Ty.isVal]; omega, by simp [Ty.dnm, Ty.lt]; omega, by rw [hw]; simp [Ty.lt, Ty.isVal]; omega, by simp [Ty.atoms, Ty.lt, Ty.isVal]; omega, ?_⟩
    rw [hw, Ty.dbud, Ty.lt]
    have e1 := h1.2.2.2.2
    generalize a.write.length = p at *
    simp only [Nat.mul_add, Nat.mul_assoc] at *
    omega
  | .ret a, h => by
    simp only [Ty.kn, Bool.and_eq_true] at h
    have h1 := kn_bounds a h.1
    have l1 := lt_pos a
    rw [h.2] at h1
    have hw : (Ty.ret a).write.length = a.write.length + 4 := by simp [Ty.write]
    simp only [if_true] at h1
    refine ⟨by simp [Ty.dat, Ty.lt, Ty.isVal]; omega, by simp [Ty.dnm, Ty.lt]; omega, by rw [hw]; simp [Ty.lt, Ty.isVal]; omega, by simp [Ty.atoms, Ty.lt, Ty.isVal]; omega, ?_⟩
    rw [hw, Ty.dbud, Ty.lt]
    have e1 := h1.2.2.2.2
    generalize a.write.length = p at *
    have m1 : p ≤ a.lt * p := Nat.le_mul_of_pos_left _ l1
    simp only [Nat.mul_add, Nat.mul_assoc] at *
    omega
  | .fn a b, h => by
    simp only [Ty.kn, Bool.and_eq_true, Bool.not_eq_true', beq_iff_eq] at h
    have h2 := kn_bounds b h.1.2
    have l2 := lt_pos b
    rw [h.2] at h2
    have hw : (Ty.fn a b).write.length = b.write.length + 6 := by simp [Ty.write, h.1.1]
    have ha : a = .bit := by
      cases a <;> simp [Ty.write] at h ⊢
    subst ha
    simp only [Bool.false_eq_true, if_false] at h2
    refine ⟨by simp [Ty.dat, Ty.lt, Ty.isVal]; omega, by simp [Ty.dnm, Ty.lt]; omega, by rw [hw]; simp [Ty.lt, Ty.isVal]; omega, by simp [Ty.atoms, Ty.lt, Ty.isVal]; omega, ?_⟩
    rw [hw, Ty.dbud, Ty.lt]
    have e1 := h2.2.2.2.2
    have e3 : Ty.bit.write.length = 1 := rfl
    rw [e3]
    generalize b.write.length = p at *
    simp only [Nat.mul_add, Nat.mul_assoc] at *
    omega
end Go.Proofs.YtagifgekhboinaaGreatDoor

namespace Go.Proofs.YtagifgekhboinaaGreatDoor
open Go.RowKit

theorem nm_len (c : Nat) : (nmB c).data.toList.length ≤ 3 := by unfold nmB; split <;> simp
theorem ty_tree_wt : ∀ t : Ty, t.tree.wt + 1 ≤ 2 * t.atoms
  | .bit => by simp [Ty.tree, Tree.wt, Ty.atoms]
  | .pair a b => by have := ty_tree_wt a; have := ty_tree_wt b; simp [Ty.tree, Tree.wt, Tree.wts, Ty.atoms]; omega
  | .thunk c => by have := ty_tree_wt c; simp [Ty.tree, Tree.wt, Tree.wts, Ty.atoms]; omega
  | .ret a => by have := ty_tree_wt a; simp [Ty.tree, Tree.wt, Tree.wts, Ty.atoms]; omega
  | .fn a c => by have := ty_tree_wt a; have := ty_tree_wt c; simp [Ty.tree, Tree.wt, Tree.wts, Ty.atoms]; omega
  | .choice c d => by have := ty_tree_wt c; have := ty_tree_wt d; simp [Ty.tree, Tree.wt, Tree.wts, Ty.atoms]; omega
/-- A tree of at most so many atoms, so much weight, so many bytes. -/
def Tree.sm (t : Tree) (z : Nat) : Prop := t.size ≤ 30 * z ∧ t.wt ≤ 60 * z ∧ t.write.length ≤ 200 * z
theorem sm_bit (k : Nat) : (bitT k).size = 1 ∧ (bitT k).wt = 1 ∧ (bitT k).write.length = 1 := by
  simp [bitT, Tree.size, Tree.wt, Tree.write, bitS]
/-- The sizes of a term of a type; a little less for computations. -/
def Tree.smt (t : Tree) (ty : Ty) : Prop := t.size + 21 ≤ 30 * ty.lt + (if ty.isVal then 1 else 0) ∧ t.wt + 42 ≤ 60 * ty.lt + (if ty.isVal then 2 else 0) ∧ t.write.length + 160 ≤ 200 * ty.lt + (if ty.isVal then 10 else 0)
theorem outD_sm {a : Ty} (hk : (Ty.ret a).kn = true) {n o c : Nat} {rec : Nat → Nat → Tree × Nat} (hr : ∀ k c, (rec k c).1.smt a) :
    (outD (Ty.ret a).tree n rec o c).1.size + 17 ≤ 30 * a.lt ∧ (outD (Ty.ret a).tree n rec o c).1.wt + 34 ≤ 60 * a.lt ∧ (outD (Ty.ret a).tree n rec o c).1.write.length + 132 ≤ 200 * a.lt := by
  have hb := kn_bounds (Ty.ret a) hk
  have l1 := lt_pos a
  have hv : a.isVal = true := by simp only [Ty.kn, Bool.and_eq_true] at hk; exact hk.2
  have e1 : (Ty.ret a).lt = 2 * a.lt := rfl
  have e2 : (Ty.ret a).isVal = false := rfl
  rw [e1, e2] at hb
  simp only [Bool.false_eq_true, if_false] at hb
  unfold outD
  split
  · have h1 := ty_tree_wt (Ty.ret a)
    have h2 := ty_tree_write (Ty.ret a)
    have h3 := ty_tree_size (Ty.ret a)
    have hw : (Ty.ret a).tree.write.length = (Ty.ret a).write.length := by rw [h2]
    generalize (Ty.ret a).tree = T at *
    simp only [Tree.size, Tree.sizes, Tree.wt, Tree.wts, Tree.write, Tree.writes, List.length_cons, List.length_append, List.length_nil, wFail]
    omega
  · have h := hr ((o - 1) % n) c
    unfold Tree.smt at h
    rw [hv] at h
    simp only [if_true] at h
    obtain ⟨b1, b2, b3⟩ := sm_bit ((o - 1) / n)
    generalize (rec ((o - 1) % n) c).1 = V at *
    generalize bitT ((o - 1) / n) = B at *
    simp only [Tree.size, Tree.sizes, Tree.wt, Tree.wts, Tree.write, Tree.writes, List.length_cons, List.length_append, List.length_nil, wPut, wReturn]
    omega
theorem dt_sm : ∀ t : Ty, t.kn = true → ∀ k c, (t.dt k c).1.smt t
  | .bit, _, k, c => by
    obtain ⟨b1, b2, b3⟩ := sm_bit k
    unfold Tree.smt
    rw [Ty.dt, b1, b2, b3]; simp [Ty.lt, Ty.isVal]
  | .pair a b, h, k, c => by
    simp only [Ty.kn, Bool.and_eq_true] at h
    have h1 := dt_sm a h.1.1.1 (k / b.cnt.getD 1) c
    have h2 := dt_sm b h.1.1.2 (k % b.cnt.getD 1) (a.dt (k / b.cnt.getD 1) c).2
    unfold Tree.smt at h1 h2 ⊢
    rw [h.1.2] at h1; rw [h.2] at h2
    simp only [if_true] at h1 h2
    rw [Ty.dt, Ty.lt]
    generalize (b.dt (k % b.cnt.getD 1) (a.dt (k / b.cnt.getD 1) c).2).1 = Y at *
    generalize (a.dt (k / b.cnt.getD 1) c).1 = X at *
    simp only [Tree.size, Tree.sizes, Tree.wt, Tree.wts, Tree.write, Tree.writes, List.length_cons, List.length_append, List.length_nil, wPair, Ty.isVal, if_true]
    omega
  | .choice a b, h, k, c => by
    simp only [Ty.kn, Bool.and_eq_true, Bool.not_eq_true'] at h
    have h1 := dt_sm a h.1.1.1 (k / b.cnt.getD 1) c
    have h2 := dt_sm b h.1.1.2 (k % b.cnt.getD 1) (a.dt (k / b.cnt.getD 1) c).2
    unfold Tree.smt at h1 h2 ⊢
    rw [h.1.2] at h1; rw [h.2] at h2
    simp only [Bool.false_eq_true, if_false] at h1 h2
    rw [Ty.dt, Ty.lt]
    generalize (b.dt (k % b.cnt.getD 1) (a.dt (k / b.cnt.getD 1) c).2).1 = Y at *
    generalize (a.dt (k / b.cnt.getD 1) c).1 = X at *
    simp only [Tree.size, Tree.sizes, Tree.wt, Tree.wts, Tree.write, Tree.writes, List.length_cons, List.length_append, List.length_nil, wBoth, Ty.isVal, Bool.false_eq_true, if_false]
    omega
  | .thunk a, h, k, c => by
    simp only [Ty.kn, Bool.and_eq_true, Bool.not_eq_true'] at h
    have h1 := dt_sm a h.1 k c
    unfold Tree.smt at h1 ⊢
    rw [h.2] at h1
    simp only [Bool.false_eq_true, if_false] at h1
    rw [Ty.dt, Ty.lt]
    generalize (a.dt k c).1 = X at *
    simp only [Tree.size, Tree.sizes, Tree.wt, Tree.wts, Tree.write, Tree.writes, List.length_cons, List.length_append, List.length_nil, wThunk, Ty.isVal, if_true]
    omega
  | .ret a, h, k, c => by
    have hk := h
    simp only [Ty.kn, Bool.and_eq_true] at h
    have h0 := dt_sm a h.1
    have h1 := outD_sm hk (n := a.cnt.getD 1) (o := k / (2 * a.cnt.getD 1 + 1)) (c := c + 1) h0
    have h2 := outD_sm hk (n := a.cnt.getD 1) (o := k % (2 * a.cnt.getD 1 + 1)) (c := (outD (Ty.ret a).tree (a.cnt.getD 1) a.dt (k / (2 * a.cnt.getD 1 + 1)) (c + 1)).2) h0
    have hn := nm_len c
    unfold Tree.smt
    rw [Ty.dt, Ty.lt]
    generalize (outD (Ty.ret a).tree (a.cnt.getD 1) a.dt (k % (2 * a.cnt.getD 1 + 1)) (outD (Ty.ret a).tree (a.cnt.getD 1) a.dt (k / (2 * a.cnt.getD 1 + 1)) (c + 1)).2).1 = Y at *
    generalize (outD (Ty.ret a).tree (a.cnt.getD 1) a.dt (k / (2 * a.cnt.getD 1 + 1)) (c + 1)).1 = X at *
    simp only [Tree.size, Tree.sizes, Tree.wt, Tree.wts, Tree.write, Tree.writes, List.length_cons, List.length_append, List.length_nil, wGet, wIf, Ty.isVal, Bool.false_eq_true, if_false]
    omega
  | .fn a b, h, k, c => by
    simp only [Ty.kn, Bool.and_eq_true, Bool.not_eq_true', beq_iff_eq] at h
    have ha : a = .bit := by cases a <;> simp [Ty.write] at h ⊢
    subst ha
    have h1 := dt_sm b h.1.2 (k % b.cnt.getD 1) (c + 2)
    have h2 := dt_sm b h.1.2 (k / b.cnt.getD 1 % b.cnt.getD 1) (b.dt (k % b.cnt.getD 1) (c + 2)).2
    have hn := nm_len c
    have hn1 := nm_len (c + 1)
    unfold Tree.smt at h1 h2 ⊢
    rw [h.2] at h1 h2
    simp only [Bool.false_eq_true, if_false] at h1 h2
    rw [Ty.dt, Ty.lt]
    generalize (b.dt (k / b.cnt.getD 1 % b.cnt.getD 1) (b.dt (k % b.cnt.getD 1) (c + 2)).2).1 = Y at *
    generalize (b.dt (k % b.cnt.getD 1) (c + 2)).1 = X at *
    rw [tbit, if_neg (by decide)]
    obtain ⟨b1, b2, b3⟩ := sm_bit 0
    obtain ⟨b4, b5, b6⟩ := sm_bit 1
    simp only [retB, Ty.tree, Tree.size, Tree.sizes, Tree.wt, Tree.wts, Tree.write, Tree.writes, List.length_cons, List.length_append, List.length_nil, wLam, wTo, wIf, wReturn, Ty.isVal, Bool.false_eq_true, if_false, b1, b2, b3, b4, b5, b6]
    omega
theorem outD_nm {a : Ty} {n o c : Nat} {tr : Tree} {rec : Nat → Nat → Tree × Nat} (hr : ∀ k c, c ≤ (rec k c).2 ∧ (rec k c).2 ≤ c + a.dnm) : c ≤ (outD tr n rec o c).2 ∧ (outD tr n rec o c).2 ≤ c + a.dnm := by
  unfold outD
  split
  · simp
  · exact hr _ _
theorem dt_nm : ∀ t : Ty, ∀ k c, c ≤ (t.dt k c).2 ∧ (t.dt k c).2 ≤ c + t.dnm
  | .bit, k, c => by simp [Ty.dt]
  | .pair a b, k, c => by
    have h1 := dt_nm a (k / b.cnt.getD 1) c
    have h2 := dt_nm b (k % b.cnt.getD 1) (a.dt (k / b.cnt.getD 1) c).2
    rw [Ty.dt, Ty.dnm]; simp only; omega
  | .choice a b, k, c => by
    have h1 := dt_nm a (k / b.cnt.getD 1) c
    have h2 := dt_nm b (k % b.cnt.getD 1) (a.dt (k / b.cnt.getD 1) c).2
    rw [Ty.dt, Ty.dnm]; simp only; omega
  | .thunk a, k, c => by
    have h1 := dt_nm a k c
    rw [Ty.dt, Ty.dnm]; simp only; omega
  | .ret a, k, c => by
    have h0 := dt_nm a
    have h1 := outD_nm (a := a) (n := a.cnt.getD 1) (o := k / (2 * a.cnt.getD 1 + 1)) (c := c + 1) (tr := (Ty.ret a).tree) h0
    have h2 := outD_nm (a := a) (n := a.cnt.getD 1) (o := k % (2 * a.cnt.getD 1 + 1)) (c := (outD (Ty.ret a).tree (a.cnt.getD 1) a.dt (k / (2 * a.cnt.getD 1 + 1)) (c + 1)).2) (tr := (Ty.ret a).tree) h0
    rw [Ty.dt, Ty.dnm]; simp only; omega
  | .fn a b, k, c => by
    have h1 := dt_nm b (k % b.cnt.getD 1) (c + 2)
    have h2 := dt_nm b (k / b.cnt.getD 1 % b.cnt.getD 1) (b.dt (k % b.cnt.getD 1) (c + 2)).2
    rw [Ty.dt, Ty.dnm]; simp only; omega
end Go.Proofs.YtagifgekhboinaaGreatDoor

namespace Go.Proofs.YtagifgekhboinaaGreatDoor
open Go.RowKit

/-- Heads in a row are the parts of a tree. -/
theorem tree_of_row {w : World} {S : Nat → Prop} {base g cap n : Nat} {e : TypeId} {L : List Hd} {ts : List Tree} (hL : L.length = n) (hl : ts.length = n) (hp : 0 < n)
    (ho : w.ownsRow base e 2 (.slice (some ⟨g, 0, none⟩) n cap) n (two L)) (hS : S g) (ht : ∀ (i : Nat) (t : Tree) (h : Hd), ts[i]? = some t → L[i]? = some h → TIn w S t h) :
    TIn w S (.node ts) ⟨ByteArray.empty, some ⟨g, 0, none⟩, n, cap⟩ := by
  have hc := ho.cells (g := g) rfl
  have hcap : n ≤ cap ∧ cap ≤ maxLen := by
    rcases ho.2 with ⟨h, _⟩ | ⟨g', cap', cur, hv, _, _, h1, h2, _⟩
    · cases h
    · simp at hv; rw [hv.2]; exact ⟨h1, h2⟩
  have hadd : ∀ j, (⟨g, 0, none⟩ : Addr).add j = ⟨g, j, none⟩ := fun j => by unfold Addr.add; split <;> simp_all
  subst hl
  refine .node ts g cap (fun i => (L[i]?).getD default) hp hcap.1 hcap.2 hS (fun i hi => ?_) (fun i hi => ?_) (fun i p h => ?_)
  · obtain ⟨h, hh⟩ : ∃ h, L[i]? = some h := ⟨_, List.getElem?_eq_getElem (by omega)⟩
    rw [← hadd, hh]; exact hc _ _ (two_get L i h hh).1
  · obtain ⟨h, hh⟩ : ∃ h, L[i]? = some h := ⟨_, List.getElem?_eq_getElem (by omega)⟩
    rw [← hadd, hh]; exact hc _ _ (two_get L i h hh).2
  · have hi := (List.getElem?_eq_some_iff.1 h).1
    obtain ⟨h', hh⟩ : ∃ h', L[i]? = some h' := ⟨_, List.getElem?_eq_getElem (by omega)⟩
    rw [hh]; exact ht i p h' h hh
theorem grown_off (W : World) (b i : Nat) (v : Value) : W.grownBy (W.setCell ⟨b, i, none⟩ v) (some b) :=
  ⟨rfl, rfl, rfl, by show W.heap.size ≤ (W.heap.modify b _).size; simp, fun k _ hk => by
    show (W.heap.modify b _)[k]? = W.heap[k]?
    rw [Array.getElem?_modify]
    rw [if_neg (fun e => hk (by rw [e]))]⟩
theorem grown_pair (W : World) (b : Nat) (u v : Value) : W.grownBy ((W.setCell ⟨b, 0, none⟩ u).setCell ⟨b, 1, none⟩ v) (some b) := (grown_off W b 0 u).trans (grown_off _ b 1 v)
theorem two_cons (x : Hd) (L : List Hd) : two [x] ++ two L = two (x :: L) := by simp [two]
theorem two_one' (L : List Hd) : ∀ u ∈ two L, u.oneCell' = true := by
  intro u hu
  unfold two at hu
  rw [List.mem_flatMap] at hu
  obtain ⟨x, _, hx⟩ := hu
  simp at hx
  rcases hx with rfl | rfl <;> rfl

set_option maxRecDepth 100000 in
set_option maxHeartbeats 2000000 in
theorem l4List_any (head : ByteArray) (hh : head.size ≠ 0) (hm : head.size ≤ 100) (L : List Hd) (n pg c : Nat) (hl : L.length = n) (hn : 0 < n) (hn4 : n ≤ 4) (ts : List Tree) (hts : ts.length = n) (S : Nat → Prop) (w : World)
    (hc : ∀ (j : Nat) (u : Value), (two L)[j]? = some u → w.cell? ((⟨pg, 0, none⟩ : Addr).add j) = some u) (ht : ∀ (i : Nat) (t : Tree) (h : Hd), ts[i]? = some t → L[i]? = some h → TIn w S t h) (hS : ∀ k, w.heap.size ≤ k → S k) :
    Calls Tryz.prog 72 #[.string head, .slice (some ⟨pg, 0, none⟩) n c] w fun e w' => (∃ h : Hd, e = .returned (.agg #[.string h.a, .slice h.p h.l h.c]) ∧ TIn w' S (.node (.atom head :: ts)) h) ∧ Below w.heap.size w w' := by
  have HC := hid hc
  have HT := hid ht
  have HS := hid hS
  obtain ⟨i0, hi0, hz0, hz1, hz2⟩ := info_parts Tryz.infoTree
  clear hc ht hS
  have hlt := hts
  have ROW := hid (show ((w.alloc (.cells #[.string ({ data := #[] } : ByteArray), .slice none 0 0] 48)).alloc (.cells #[.string head, .slice none 0 0] 48)).ownsRow (w.heap.size + 1) 48 2 (.slice (some ⟨w.heap.size + 1, 0, none⟩) 1 1) 1 (two [⟨head, none, 0, 0⟩]) from by
    refine ⟨rfl, Or.inr ⟨w.heap.size + 1, 1, #[.string head, .slice none 0 0], rfl, Nat.le_refl _, heap_new _ _ _ (by simp), Nat.le_refl _, by unfold maxLen; omega, rfl, rfl⟩⟩)
  have HCK := hid (fun (j : Nat) (u : Value) (hu : (two L)[j]? = some u) => (show ((w.alloc (.cells #[.string ({ data := #[] } : ByteArray), .slice none 0 0] 48)).alloc (.cells #[.string head, .slice none 0 0] 48)).cell? ((⟨pg, 0, none⟩ : Addr).add j) = some u from
    (Kept.of_below (((Below.refl _ _).alloc (Nat.le_refl _) _).alloc (by simp) _) (Nat.le_refl _)).cell (HC.out j u hu)))
  have HB0 := hid (show ((w.alloc (.cells #[.string ({ data := #[] } : ByteArray), .slice none 0 0] 48)).alloc (.cells #[.string head, .slice none 0 0] 48)).heap[w.heap.size]? = some (.cells #[.string ({ data := #[] } : ByteArray), .slice none 0 0] 48 (0, 0)) from by
    rw [heap_alloc_old _ _ (by simp)]; exact heap_new _ _ _ rfl)
  have HLEN := hid (two_length L)
  have HONE := hid (two_one' L)
  have HTL := hid hts
  have HLL := hid hl
  clear hts hl hlt
  go_enter Tryz.func72, Tryz.ntmps72
  go_wp2_with (at_builtin; refine wpList_append_at _ rfl _ _ 46 rfl (w.heap.size + 1) 48 i0 (.agg #[.string ByteArray.empty, .slice none 0 0]) 2 40 Tryz.underlying46 hi0 hz0 hz1 hz2 rfl (by decide) (.slice (some ⟨w.heap.size + 1, 0, none⟩) 1 1) 1 (two [⟨head, none, 0, 0⟩]) rfl ROW.out ⟨pg, 0, none⟩ n c (two L) rfl (by rw [HLEN.out, HLL.out]) HCK.out HONE.out hn (by unfold maxLen; omega) (by omega) (by simp) ?_; intro v' w2 hown2 hg2 hw2 hv2; obtain ⟨g, kc, rfl⟩ := hv2; have hb2 := block_grown HB0.out hg2 (by simp [Value.ownBlock]); obtain ⟨k1, k2, k3, k4⟩ := cells_of_pair hb2; have HB2 := hid hb2; clear hb2; have HO2 := hid hown2; have HG2 := hid hg2; have HW2 := hid hw2; clear hown2 hg2 hw2)
  have hgb := HO2.out.lt g (by simp [Value.ownBlock])
  have hg3 := grown_pair w2 w.heap.size (.string ({ data := #[] } : ByteArray)) (.slice (some ⟨g, 0, none⟩) (1 + n) kc)
  obtain ⟨w3, hw3⟩ : ∃ w3, w3 = ((w2.setCell ⟨w.heap.size, 0, none⟩ (.string ({ data := #[] } : ByteArray))).setCell ⟨w.heap.size, 1, none⟩ (.slice (some ⟨g, 0, none⟩) (1 + n) kc)) := ⟨_, rfl⟩
  rw [← hw3] at hg3
  have hb0 := ((Below.refl w.heap.size w).alloc (Nat.le_refl _) (.cells #[.string ({ data := #[] } : ByteArray), .slice none 0 0] 48)).alloc (by simp) (.cells #[.string head, .slice none 0 0] 48)
  have hb2 : Below w.heap.size w w2 := hb0.grown HG2.out (by simp; omega) (fun k e => by simp [Value.ownBlock] at e; omega)
  have hb3 : Below w.heap.size w w3 := hb2.grown hg3 hb2.size (fun k e => by simp at e; omega)
  have ho3 := HO2.out.kept hg3 (Or.inr (by simp [Value.ownBlock]; omega))
  rw [two_cons] at ho3
  refine bodyPost_ret (v := .agg #[.string ({ data := #[] } : ByteArray), .slice (some ⟨g, 0, none⟩) (1 + n) kc]) (by simp [results, Tryz.results72, go_sem, k1, k2]) rfl ?_
  rw [← hw3]
  refine ⟨⟨⟨({ data := #[] } : ByteArray), some ⟨g, 0, none⟩, 1 + n, kc⟩, rfl, tree_of_row (L := ⟨head, none, 0, 0⟩ :: L) (by rw [List.length_cons, HLL.out]; omega) (by rw [List.length_cons, HTL.out]; omega) (by omega) ho3 (HS.out g (by omega)) ?_⟩, hb3⟩
  intro i t h hti hLi
  cases i with
  | zero => simp at hti hLi; subst hti; subst hLi; exact .atom head hh (by unfold maxLen; omega)
  | succ i =>
    simp at hti hLi
    exact (HT.out i t h hti hLi).keep (fun k _ hk => hb3.block k hk) (fun k hk _ => hk)
end Go.Proofs.YtagifgekhboinaaGreatDoor

namespace Go.Proofs.YtagifgekhboinaaGreatDoor
open Go.RowKit

theorem conv_at (c : Int) {w : World} {g : Nat} (h : w.heap[g]? = some (.cells #[.int .u8 c] 5 (0, 0))) : (convert 24 9 (.slice (some ⟨g, 0, none⟩) 1 1)).run Tryz.prog w = .ok (.string (strOfNums [c])) w :=
  run_convert_bytes_arg _ 24 5 Tryz.underlying24 Tryz.underlying5 g 0 1 1 [c] rfl (by
    intro i hi
    obtain rfl : i = 0 := by omega
    simp [World.cell?, h]) 9 Tryz.underlying9
theorem conv_new (c : Int) (w : World) : (convert 24 9 (.slice (some ⟨w.heap.size, 0, none⟩) 1 1)).run Tryz.prog (w.alloc (.cells #[.int .u8 c] 5)) = .ok (.string (strOfNums [c])) (w.alloc (.cells #[.int .u8 c] 5)) :=
  conv_at c (heap_new _ _ _ rfl)
set_option maxRecDepth 100000 in
set_option maxHeartbeats 1000000 in
theorem l6Dec_0 (w : World) : Calls Tryz.prog 71 #[.int .i64 0] w fun e w' => e = .returned (.string (decS 0)) ∧ Below w.heap.size w w' := by
  have hc := conv_new 48 w
  rw [show strOfNums [48] = decS 0 by decide] at hc
  go_enter Tryz.func71, Tryz.ntmps71
  go_wp2_with fail
  go_ret
  exact ⟨rfl, (Below.refl _ _).alloc (Nat.le_refl _) _⟩
set_option maxRecDepth 100000 in
set_option maxHeartbeats 1000000 in
theorem l6Dec_1 (w : World) : Calls Tryz.prog 71 #[.int .i64 1] w fun e w' => e = .returned (.string (decS 1)) ∧ Below w.heap.size w w' := by
  have hc := conv_new 49 w
  rw [show strOfNums [49] = decS 1 by decide] at hc
  go_enter Tryz.func71, Tryz.ntmps71
  go_wp2_with fail
  go_ret
  exact ⟨rfl, (Below.refl _ _).alloc (Nat.le_refl _) _⟩
set_option maxRecDepth 100000 in
set_option maxHeartbeats 1000000 in
theorem l6Dec_2 (w : World) : Calls Tryz.prog 71 #[.int .i64 2] w fun e w' => e = .returned (.string (decS 2)) ∧ Below w.heap.size w w' := by
  have hc := conv_new 50 w
  rw [show strOfNums [50] = decS 2 by decide] at hc
  go_enter Tryz.func71, Tryz.ntmps71
  go_wp2_with fail
  go_ret
  exact ⟨rfl, (Below.refl _ _).alloc (Nat.le_refl _) _⟩
set_option maxRecDepth 100000 in
set_option maxHeartbeats 1000000 in
theorem l6Dec_3 (w : World) : Calls Tryz.prog 71 #[.int .i64 3] w fun e w' => e = .returned (.string (decS 3)) ∧ Below w.heap.size w w' := by
  have hc := conv_new 51 w
  rw [show strOfNums [51] = decS 3 by decide] at hc
  go_enter Tryz.func71, Tryz.ntmps71
  go_wp2_with fail
  go_ret
  exact ⟨rfl, (Below.refl _ _).alloc (Nat.le_refl _) _⟩
set_option maxRecDepth 100000 in
set_option maxHeartbeats 1000000 in
theorem l6Dec_4 (w : World) : Calls Tryz.prog 71 #[.int .i64 4] w fun e w' => e = .returned (.string (decS 4)) ∧ Below w.heap.size w w' := by
  have hc := conv_new 52 w
  rw [show strOfNums [52] = decS 4 by decide] at hc
  go_enter Tryz.func71, Tryz.ntmps71
  go_wp2_with fail
  go_ret
  exact ⟨rfl, (Below.refl _ _).alloc (Nat.le_refl _) _⟩
set_option maxRecDepth 100000 in
set_option maxHeartbeats 1000000 in
theorem l6Dec_5 (w : World) : Calls Tryz.prog 71 #[.int .i64 5] w fun e w' => e = .returned (.string (decS 5)) ∧ Below w.heap.size w w' := by
  have hc := conv_new 53 w
  rw [show strOfNums [53] = decS 5 by decide] at hc
  go_enter Tryz.func71, Tryz.ntmps71
  go_wp2_with fail
  go_ret
  exact ⟨rfl, (Below.refl _ _).alloc (Nat.le_refl _) _⟩
set_option maxRecDepth 100000 in
set_option maxHeartbeats 1000000 in
theorem l6Dec_6 (w : World) : Calls Tryz.prog 71 #[.int .i64 6] w fun e w' => e = .returned (.string (decS 6)) ∧ Below w.heap.size w w' := by
  have hc := conv_new 54 w
  rw [show strOfNums [54] = decS 6 by decide] at hc
  go_enter Tryz.func71, Tryz.ntmps71
  go_wp2_with fail
  go_ret
  exact ⟨rfl, (Below.refl _ _).alloc (Nat.le_refl _) _⟩
set_option maxRecDepth 100000 in
set_option maxHeartbeats 1000000 in
theorem l6Dec_7 (w : World) : Calls Tryz.prog 71 #[.int .i64 7] w fun e w' => e = .returned (.string (decS 7)) ∧ Below w.heap.size w w' := by
  have hc := conv_new 55 w
  rw [show strOfNums [55] = decS 7 by decide] at hc
  go_enter Tryz.func71, Tryz.ntmps71
  go_wp2_with fail
  go_ret
  exact ⟨rfl, (Below.refl _ _).alloc (Nat.le_refl _) _⟩
set_option maxRecDepth 100000 in
set_option maxHeartbeats 1000000 in
theorem l6Dec_8 (w : World) : Calls Tryz.prog 71 #[.int .i64 8] w fun e w' => e = .returned (.string (decS 8)) ∧ Below w.heap.size w w' := by
  have hc := conv_new 56 w
  rw [show strOfNums [56] = decS 8 by decide] at hc
  go_enter Tryz.func71, Tryz.ntmps71
  go_wp2_with fail
  go_ret
  exact ⟨rfl, (Below.refl _ _).alloc (Nat.le_refl _) _⟩
set_option maxRecDepth 100000 in
set_option maxHeartbeats 1000000 in
theorem l6Dec_9 (w : World) : Calls Tryz.prog 71 #[.int .i64 9] w fun e w' => e = .returned (.string (decS 9)) ∧ Below w.heap.size w w' := by
  have hc := conv_new 57 w
  rw [show strOfNums [57] = decS 9 by decide] at hc
  go_enter Tryz.func71, Tryz.ntmps71
  go_wp2_with fail
  go_ret
  exact ⟨rfl, (Below.refl _ _).alloc (Nat.le_refl _) _⟩
theorem l6Dec_dec (c : Nat) (hc : c < 10) (w : World) : Calls Tryz.prog 71 #[.int .i64 (c : Int)] w fun e w' => e = .returned (.string (decS c)) ∧ Below w.heap.size w w' := by
  match c, hc with
  | 0, _ => exact l6Dec_0 w
  | 1, _ => exact l6Dec_1 w
  | 2, _ => exact l6Dec_2 w
  | 3, _ => exact l6Dec_3 w
  | 4, _ => exact l6Dec_4 w
  | 5, _ => exact l6Dec_5 w
  | 6, _ => exact l6Dec_6 w
  | 7, _ => exact l6Dec_7 w
  | 8, _ => exact l6Dec_8 w
  | 9, _ => exact l6Dec_9 w
  | c + 10, hc => omega
end Go.Proofs.YtagifgekhboinaaGreatDoor

namespace Go.Proofs.YtagifgekhboinaaGreatDoor
open Go.RowKit

theorem tree_two {w : World} {S : Nat → Prop} {t : Tree} {ty x y : Ty} {a : ByteArray} {p : Option Addr} {l c : Nat} (ht : TIn w S t ⟨a, p, l, c⟩) (hty : t.ty = some ty) (hk : ty.kids = [x, y]) :
    ∃ (b : Nat) (A : Nat → Hd) (p1 p2 : Tree), p = some ⟨b, 0, none⟩ ∧ l = 3 ∧ 3 ≤ c ∧ c ≤ maxLen ∧ (∀ i, i < 3 → w.cell? ⟨b, i * 2, none⟩ = some (.string (A i).a)) ∧ (∀ i, i < 3 → w.cell? ⟨b, i * 2 + 1, none⟩ = some (.slice (A i).p (A i).l (A i).c)) ∧
      p1.ty = some x ∧ p2.ty = some y ∧ TIn w S p1 (A 1) ∧ TIn w S p2 (A 2) := by
  match t with
  | .atom s =>
    rw [Tree.ty] at hty
    split at hty
    · simp at hty; subst hty; simp [Ty.kids] at hk
    · simp at hty
  | .node [] => rw [Tree.ty] at hty; simp at hty
  | .node (q :: qs) =>
    rw [Tree.ty] at hty
    cases hks : Tree.tys qs with
    | none => rw [hks] at hty; simp at hty
    | some ks =>
      rw [hks] at hty; simp only at hty
      have := tyParts_kids hty
      rw [hk] at this; subst this
      obtain ⟨p1, p2, rfl, h1, h2⟩ := tys_two hks
      obtain ⟨b, A, rfl, rfl, rfl, hl, hc, hp, hA, hB, hps⟩ := ht.node_inv
      exact ⟨b, A, p1, p2, rfl, rfl, hl, hc, hA, hB, h1, h2, hps 1 p1 rfl, hps 2 p2 rfl⟩
theorem tree_one {w : World} {S : Nat → Prop} {t : Tree} {ty x : Ty} {a : ByteArray} {p : Option Addr} {l c : Nat} (ht : TIn w S t ⟨a, p, l, c⟩) (hty : t.ty = some ty) (hk : ty.kids = [x]) :
    ∃ (b : Nat) (A : Nat → Hd) (p1 : Tree), p = some ⟨b, 0, none⟩ ∧ l = 2 ∧ 2 ≤ c ∧ c ≤ maxLen ∧ (∀ i, i < 2 → w.cell? ⟨b, i * 2, none⟩ = some (.string (A i).a)) ∧ (∀ i, i < 2 → w.cell? ⟨b, i * 2 + 1, none⟩ = some (.slice (A i).p (A i).l (A i).c)) ∧
      p1.ty = some x ∧ TIn w S p1 (A 1) := by
  match t with
  | .atom s =>
    rw [Tree.ty] at hty
    split at hty
    · simp at hty; subst hty; simp [Ty.kids] at hk
    · simp at hty
  | .node [] => rw [Tree.ty] at hty; simp at hty
  | .node (q :: qs) =>
    rw [Tree.ty] at hty
    cases hks : Tree.tys qs with
    | none => rw [hks] at hty; simp at hty
    | some ks =>
      rw [hks] at hty; simp only at hty
      have := tyParts_kids hty
      rw [hk] at this; subst this
      obtain ⟨p1, rfl, h1⟩ := tys_one hks
      obtain ⟨b, A, rfl, rfl, rfl, hl, hc, hp, hA, hB, hps⟩ := ht.node_inv
      exact ⟨b, A, p1, rfl, rfl, hl, hc, hA, hB, h1, hps 1 p1 rfl⟩
end Go.Proofs.YtagifgekhboinaaGreatDoor

namespace Go.Proofs.YtagifgekhboinaaGreatDoor
open Go.RowKit

/-- A computation type of at most 70 elements returns bits. -/
theorem comp_70 {t : Ty} {n : Nat} (hw : t.wf = true) (hv : t.isVal = false) (h : t.cnt = some n) (hn : n ≤ 70) : t = .ret .bit ∧ n = 25 := by
  match t, hw, hv, h with
  | .bit, _, hv, _ => simp [Ty.isVal] at hv
  | .pair _ _, _, hv, _ => simp [Ty.isVal] at hv
  | .thunk _, _, hv, _ => simp [Ty.isVal] at hv
  | .ret a, hw, _, h =>
    obtain ⟨x, hx, rfl⟩ := cnt_ret h
    simp only [Ty.wf, Bool.and_eq_true] at hw
    have hx3 : x ≤ 3 := by
      rcases Nat.lt_or_ge 3 x with h4 | h4
      · have : 9 * 9 ≤ (2 * x + 1) * (2 * x + 1) := Nat.mul_le_mul (by omega) (by omega)
        omega
      · exact h4
    match a, hw, hx with
    | .bit, _, hx => simp [Ty.cnt] at hx; subst hx; exact ⟨rfl, rfl⟩
    | .pair p q, _, hx =>
      obtain ⟨u, v, hu, hv, rfl⟩ := cnt_pair hx
      have := Nat.mul_le_mul (cnt_range p u hu).1 (cnt_range q v hv).1
      omega
    | .thunk c, hw, hx =>
      have hwc := hw.1
      simp only [Ty.wf, Bool.and_eq_true, Bool.not_eq_true'] at hwc
      have := cnt_comp c x hwc.1 hwc.2 hx
      omega
    | .ret c, hw, _ => simp [Ty.isVal] at hw
    | .fn c d, hw, _ => simp [Ty.isVal] at hw
    | .choice c d, hw, _ => simp [Ty.isVal] at hw
  | .fn a b, hw, _, h =>
    obtain ⟨ha, h2⟩ := fn_bit hw h
    obtain ⟨x, y, hx, hy, rfl, _⟩ := cnt_fn h
    simp only [Ty.wf, Bool.and_eq_true, Bool.not_eq_true'] at hw
    rw [h2] at hx; obtain rfl : 2 = x := by simpa using hx
    have := cnt_comp b y hw.1.1.2 hw.2 hy
    have : 25 * 25 ≤ y ^ 2 := by rw [Nat.pow_two]; exact Nat.mul_le_mul this this
    omega
  | .choice a b, hw, _, h =>
    obtain ⟨x, y, hx, hy, rfl⟩ := cnt_choice h
    simp only [Ty.wf, Bool.and_eq_true, Bool.not_eq_true'] at hw
    have := Nat.mul_le_mul (cnt_comp a x hw.1.1.1 hw.1.2 hx) (cnt_comp b y hw.1.1.2 hw.2 hy)
    omega
theorem dnm_cnt : ∀ (t : Ty) (n : Nat), t.wf = true → t.cnt = some n → 2 * 4 ^ t.dnm ≤ n
  | .bit, n, _, h => by simp [Ty.cnt] at h; subst h; simp [Ty.dnm]
  | .pair a b, n, hw, h => by
    obtain ⟨x, y, hx, hy, rfl⟩ := cnt_pair h
    simp only [Ty.wf, Bool.and_eq_true] at hw
    have := Nat.mul_le_mul (dnm_cnt a x hw.1.1.1 hx) (dnm_cnt b y hw.1.1.2 hy)
    rw [Ty.dnm, Nat.pow_add]
    have e : 2 * 4 ^ a.dnm * (2 * 4 ^ b.dnm) = 2 * (2 * (4 ^ a.dnm * 4 ^ b.dnm)) := by rw [Nat.mul_mul_mul_comm, ← Nat.mul_assoc 2 2]
    omega
  | .choice a b, n, hw, h => by
    obtain ⟨x, y, hx, hy, rfl⟩ := cnt_choice h
    simp only [Ty.wf, Bool.and_eq_true, Bool.not_eq_true'] at hw
    have := Nat.mul_le_mul (dnm_cnt a x hw.1.1.1 hx) (dnm_cnt b y hw.1.1.2 hy)
    rw [Ty.dnm, Nat.pow_add]
    have e : 2 * 4 ^ a.dnm * (2 * 4 ^ b.dnm) = 2 * (2 * (4 ^ a.dnm * 4 ^ b.dnm)) := by rw [Nat.mul_mul_mul_comm, ← Nat.mul_assoc 2 2]
    omega
  | .thunk a, n, hw, h => by
    simp only [Ty.wf, Bool.and_eq_true, Bool.not_eq_true'] at hw
    rw [Ty.cnt] at h
    exact dnm_cnt a n hw.1 h
  | .ret a, n, hw, h => by
    obtain ⟨x, hx, rfl⟩ := cnt_ret h
    simp only [Ty.wf, Bool.and_eq_true] at hw
    have h1 := dnm_cnt a x hw.1 hx
    have h2 : (2 * (2 * 4 ^ a.dnm)) * (2 * (2 * 4 ^ a.dnm)) ≤ (2 * x + 1) * (2 * x + 1) := Nat.mul_le_mul (by omega) (by omega)
    have e0 : 4 ^ (1 + 2 * a.dnm) = 4 * (4 ^ a.dnm * 4 ^ a.dnm) := by rw [Nat.pow_add, Nat.two_mul a.dnm, Nat.pow_add]
    rw [Ty.dnm, e0]
    have e : (2 * (2 * 4 ^ a.dnm)) * (2 * (2 * 4 ^ a.dnm)) = 16 * (4 ^ a.dnm * 4 ^ a.dnm) := by
      rw [← Nat.mul_assoc 2 2, Nat.mul_mul_mul_comm]
    omega
  | .fn a b, n, hw, h => by
    obtain ⟨ha, h2⟩ := fn_bit hw h
    obtain ⟨x, y, hx, hy, rfl, h5⟩ := cnt_fn h
    simp only [Ty.wf, Bool.and_eq_true, Bool.not_eq_true'] at hw
    rw [h2] at hx; obtain rfl : 2 = x := by simpa using hx
    have hy70 : y ≤ 70 := by
      rcases Nat.lt_or_ge 70 y with h4 | h4
      · have : 71 * 71 ≤ y ^ 2 := by rw [Nat.pow_two]; exact Nat.mul_le_mul h4 h4
        omega
      · exact h4
    obtain ⟨rfl, rfl⟩ := comp_70 hw.1.1.2 hw.2 hy hy70
    subst ha
    decide
theorem dnm_5 {t : Ty} {n : Nat} (hw : t.wf = true) (h : t.cnt = some n) : t.dnm ≤ 5 := by
  have h1 := dnm_cnt t n hw h
  have h2 := (cnt_range t n h).2
  rcases Nat.lt_or_ge 5 t.dnm with h4 | h4
  · have : 4 ^ 6 ≤ 4 ^ t.dnm := Nat.pow_le_pow_right (by decide) h4
    omega
  · exact h4
end Go.Proofs.YtagifgekhboinaaGreatDoor
