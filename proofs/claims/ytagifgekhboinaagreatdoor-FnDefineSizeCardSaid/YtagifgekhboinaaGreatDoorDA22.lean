/- Merged: CountD, CountE, Trn, NmQ, IsEl, CountS. -/
import Derived.Maps.Range
import Derived.Test.YtagifgekhboinaaGreatDoorDASCountC
import Derived.Test.YtagifgekhboinaaGreatDoorDA9
import Derived.Test.YtagifgekhboinaaGreatDoorDA13
namespace Go.Proofs.YtagifgekhboinaaGreatDoor
open Go.RowKit Go.Maps

/-- The counts of parts, if all are known. -/
def kc : List Ty → Option (List Nat)
  | [] => some []
  | t :: ts => match t.cnt, kc ts with
    | some n, some ns => some (n :: ns)
    | _, _ => none
theorem kc_snoc : ∀ (l : List Ty) (i : Nat) (t : Ty) (xs : List Nat) (m : Nat), l[i]? = some t → kc (l.take i) = some xs → t.cnt = some m → kc (l.take (i + 1)) = some (xs ++ [m])
  | [], i, t, xs, m, h, _, _ => by simp at h
  | u :: l, 0, t, xs, m, h, hk, ht => by
    simp at h; subst h
    simp [kc] at hk; subst hk
    simp [kc, ht]
  | u :: l, i + 1, t, xs, m, h, hk, ht => by
    rw [List.take_succ_cons, kc] at hk ⊢
    cases hu : u.cnt with
    | none => rw [hu] at hk; simp at hk
    | some a =>
      rw [hu] at hk
      cases hr : kc (l.take i) with
      | none => rw [hr] at hk; simp at hk
      | some ns =>
        rw [hr] at hk; simp at hk; subst hk
        rw [kc_snoc l i t ns m (by simpa using h) hr ht]; rfl
theorem kc_none : ∀ (l : List Ty) (i : Nat) (t : Ty), l[i]? = some t → t.cnt = none → kc l = none
  | [], i, t, h, _ => by simp at h
  | u :: l, 0, t, h, ht => by simp at h; subst h; simp [kc, ht]
  | u :: l, i + 1, t, h, ht => by
    rw [kc, kc_none l i t (by simpa using h) ht]
    cases u.cnt <;> rfl
theorem kc_len : ∀ (l : List Ty) (xs : List Nat), kc l = some xs → xs.length = l.length
  | [], xs, h => by simp [kc] at h; subst h; rfl
  | u :: l, xs, h => by
    rw [kc] at h
    cases hu : u.cnt with
    | none => rw [hu] at h; simp at h
    | some a =>
      rw [hu] at h
      cases hr : kc l with
      | none => rw [hr] at h; simp at h
      | some ns => rw [hr] at h; simp at h; subst h; simp [kc_len l ns hr]
/-- Texts' lengths together. -/
def lenL : List Ty → Nat
  | [] => 0
  | t :: ts => t.write.length + lenL ts
theorem lenL_drop : ∀ (l : List Ty) (i : Nat) (t : Ty), l[i]? = some t → lenL (l.drop i) = t.write.length + lenL (l.drop (i + 1))
  | [], i, t, h => by simp at h
  | u :: l, 0, t, h => by simp at h; subst h; rfl
  | u :: l, i + 1, t, h => by simpa using lenL_drop l i t (by simpa using h)
theorem Tryz.infoInt : (Tryz.prog.info? 3).map (fun i => (i.zero, i.size, i.bytes)) = some (some (.int .i64 0), 1, 8) := by kernel_rfl
/-- A slice from a block's beginning reads as a list. -/
def Vals0 (w : World) (p : Option Addr) (l : List Value) : Prop := ∀ i v, l[i]? = some v → ∃ g, p = some ⟨g, 0, none⟩ ∧ w.cell? ⟨g, i, none⟩ = some v
theorem vals0_any {w : World} {base : Nat} {e : TypeId} {p : Option Addr} {n c : Nat} {xs : List Value} (h : w.ownsRow base e 1 (.slice p n c) n xs) : Vals0 w p xs := by
  rcases h.2 with ⟨_, hn⟩ | ⟨g, cap, cur, hv, _⟩
  · have : xs = [] := List.eq_nil_of_length_eq_zero (by have := h.1; omega)
    subst this; intro i v hv; simp at hv
  · obtain ⟨rfl, _⟩ : p = some ⟨g, 0, none⟩ ∧ c = cap := by simp at hv; exact hv
    intro i v hv
    have hc := h.cells (g := g) rfl i v hv
    have hadd : (⟨g, 0, none⟩ : Addr).add i = ⟨g, i, none⟩ := by unfold Addr.add; split <;> simp_all
    rw [hadd] at hc
    exact ⟨g, rfl, hc⟩
/-- What ofParts leaves. -/
def PartsPost (l : List Ty) (b n k : Nat) (w : World) (e : Ending) (w' : World) : Prop :=
  w.grownBy w' (some b) ∧ (∃ n' D', n' ≤ n + k ∧ w'.ownsMap Tryz.prog 9 (plainElem Tryz.prog 3) b n' D' ∧ Good D') ∧
  ((kc l = none ∧ e = .returned (.tuple #[.slice none 0 0, .bool false])) ∨ (∃ xs q c, kc l = some xs ∧ e = .returned (.tuple #[.slice q l.length c, .bool true]) ∧ Vals0 w' q (xs.map fun (x : Nat) => Value.int .i64 (x : Int))))
theorem PartsPost.no {l : List Ty} {b n k : Nat} {w w' : World} {e : Ending} (hk : kc l = none) (h : PartsPost l b n k w e w') :
    e = .returned (.tuple #[.slice none 0 0, .bool false]) ∧ w.grownBy w' (some b) ∧ ∃ n' D', n' ≤ n + k ∧ w'.ownsMap Tryz.prog 9 (plainElem Tryz.prog 3) b n' D' ∧ Good D' := by
  obtain ⟨h1, h2, ⟨_, h3⟩ | ⟨xs, _, _, h4, _⟩⟩ := h
  · exact ⟨h3, h1, h2⟩
  · rw [hk] at h4; cases h4
theorem PartsPost.yes {l : List Ty} {b n k : Nat} {w w' : World} {e : Ending} {xs : List Nat} (hk : kc l = some xs) (h : PartsPost l b n k w e w') :
    (∃ q c, e = .returned (.tuple #[.slice q l.length c, .bool true]) ∧ Vals0 w' q (xs.map fun (x : Nat) => Value.int .i64 (x : Int))) ∧ w.grownBy w' (some b) ∧ ∃ n' D', n' ≤ n + k ∧ w'.ownsMap Tryz.prog 9 (plainElem Tryz.prog 3) b n' D' ∧ Good D' := by
  obtain ⟨h1, h2, ⟨h4, _⟩ | ⟨ys, q, c, h4, h5, h6⟩⟩ := h
  · rw [hk] at h4; cases h4
  · rw [hk] at h4; simp at h4; subst h4; exact ⟨⟨q, c, h5, h6⟩, h1, h2⟩
theorem map_ne {w : World} {P : Program} {k : TypeId} {R : Value → Option (DataW Unit × List MemPlace)} {b n g : Nat} {D : DataW Unit} {cs : Array Value} {t : TypeId} {fr : Nat × Nat} (h : w.ownsMap P k R b n D) (hg : w.heap[g]? = some (.cells cs t fr)) : some g ≠ some b := by
  intro e
  obtain ⟨es, clock, hb, _⟩ := h
  simp at e; subst e
  rw [hb] at hg; cases hg

set_option maxRecDepth 100000 in
set_option maxHeartbeats 2000000 in
theorem ofParts_pair (x y : Ty) (w : World) (b n : Nat) (D : DataW Unit) (hown : w.ownsMap Tryz.prog 9 (plainElem Tryz.prog 3) b n D) (hg : Good D) (hn : n + lenL [x, y] ≤ 1000000)
    (hof : ∀ (i : Nat) (t : Ty), ([x, y] : List Ty)[i]? = some t → ∀ W n D, W.ownsMap Tryz.prog 9 (plainElem Tryz.prog 3) b n D → Good D → n + t.write.length ≤ 1000000 → Calls Tryz.prog 33 #[.map (some b), t.val] W (CPost b n t.write.length (cntV t.cnt) W)) :
    Calls Tryz.prog 84 #[.map (some b), (Ty.pair x y).val] w (PartsPost [x, y] b n (lenL [x, y]) w) := by
  have mk := m_kids_pair x.val y.val
  have HOF := hid hof
  have HO := hid hown
  have HG := hid hg
  have hbl := hown.lt
  obtain ⟨l, hl⟩ : ∃ l, l = ([x, y] : List Ty) := ⟨_, rfl⟩
  have HK := hid (fun W => kids_pair x y W)
  rw [← hl] at hn HOF ⊢
  have HVL := hid (show ∀ (W : World) g, W.heap[g]? = some (.cells #[x.val, y.val] 36 (0, 0)) → ∀ j v, (l.map Ty.val)[j]? = some v → W.cell? ⟨g, 0 + j, none⟩ = some v from fun W g h j v hj => by
    rw [hl] at hj
    obtain ⟨b', o', hp, hc⟩ := vals_two h j v hj
    simp at hp; obtain ⟨rfl, rfl⟩ := hp; exact hc)
  have HLEN := hid (show l.length = 2 by rw [hl]; rfl)
  obtain ⟨T, hT⟩ : ∃ T, lenL l = T := ⟨_, rfl⟩
  rw [hT] at hn ⊢
  have HT := hid hT
  simp only [Ty.val]
  clear hof hown hg hl hT
  go_enter Tryz.func84, Tryz.ntmps84
  go_wp2_with (go_at_call 174; refine (HK.out _).mono ?_; rintro e w1 ⟨bk, rfl, hb0, hb1⟩; have HB1 := hid hb1; have hz1 := hb1.size; have HM1 := hid (HO.out.kept (row := none) (grown_any hb1 _) (by simp)); have HNE := hid (map_ne HM1.out hb0); have HVC := hid (HVL.out _ _ hb0); clear hb0 hb1)
  go_loopw [6, 13] (fun v u wr => ∃ (i c : Nat) (q : Option Addr) (xs : List Nat) (D' : DataW Unit) (n' : Nat), i ≤ 2 ∧ u = .int .i64 (i : Int) ∧ v = .slice q i c ∧ Hid (kc (l.take i) = some xs) ∧ wr.ownsRow w1.heap.size 3 1 (.slice q i c) i (xs.map fun (x : Nat) => Value.int .i64 (x : Int)) ∧
      w1.grownBy wr (some b) ∧ wr.ownsMap Tryz.prog 9 (plainElem Tryz.prog 3) b n' D' ∧ Good D' ∧ n' + lenL (l.drop i) ≤ n + T) (fun _ u _ => 2 - (intOf u).toNat)
  case atStart => exact ⟨0, 0, none, [], D, n, Nat.zero_le _, rfl, rfl, rfl, World.ownsRow_nil _ _ _ _, World.grownBy.refl _ _, HM1.out, HG.out, by rw [List.drop_zero, HT.out]; exact Nat.le_refl _⟩
  case round =>
    obtain ⟨i, c, q, xs, D', n', hi, rfl, rfl, hkc, hrow, hgr, hmp, hgd, hnn⟩ := hrel
    have HROW := hid hrow
    have HGR := hid hgr
    have HMP := hid hmp
    have HGD := hid hgd
    have hz := hgr.size
    clear hrow hgr hmp hgd
    by_cases hlt : i < 2
    · obtain ⟨t, ht⟩ : ∃ t, l[i]? = some t := ⟨_, List.getElem?_eq_getElem (by rw [HLEN.out]; exact hlt)⟩
      have hcc := HGR.out.cell (HVC.out i t.val (by simp [ht])) HNE.out
      have hdr := lenL_drop l i t ht
      have HC := hid (HOF.out i t ht wr n' D' HMP.out HGD.out (by omega))
      have HDR := hid hdr
      have HTT := hid ht
      obtain ⟨ui, vi, hvi⟩ := t.val_iface
      rw [hvi] at hcc HC
      rw [Nat.zero_add] at hcc
      clear ht hdr hvi
      cases hcnt : t.cnt with
      | none =>
        have HCN := hid hcnt
        rw [show cntV t.cnt = -1 by rw [hcnt]; rfl] at HC
        clear hcnt
        go_wp2_with (go_at_call 33; refine HC.out.mono ?_; rintro e w2 ⟨rfl, hg2, n2, D2, hn2, hown2, hgd2⟩; have HG2 := hid hg2; have HO2 := hid hown2; have HD2 := hid hgd2; clear hg2 hown2 hgd2)
        go_ret2
        have h3 := HDR.out
        exact ⟨((grown_any HB1.out _).trans HGR.out).trans HG2.out, ⟨n2, D2, by omega, HO2.out, HD2.out⟩, .inl ⟨kc_none l i t HTT.out HCN.out, rfl⟩⟩
      | some m =>
        have HCN := hid hcnt
        have hm := cnt_range t m hcnt
        rw [show cntV t.cnt = (m : Int) by rw [hcnt]; rfl] at HC
        obtain ⟨i0, hi0, hz0, hz1', hz2⟩ := info_parts Tryz.infoInt
        clear hcnt
        go_wp2_with (first | (at_builtin; refine wpList_append_at _ rfl (.tmp 22) (.tmp 24) 96 rfl w1.heap.size 3 i0 (.int .i64 0) 1 8 Tryz.underlying96 hi0 hz0 hz1' hz2 rfl (by decide) (.slice q i c) i _ rfl ((HROW.out.kept HG2.out (Or.inr (fun e => by have := (HROW.out.lt b e).1; omega))).alloc _) ⟨w2.heap.size, 0, none⟩ 1 1 [.int .i64 (m : Int)] rfl rfl (cells_new1 _ _ _ _ rfl) (by intro u hu; simp at hu; subst hu; rfl) (by decide) (by unfold maxLen; omega) (by omega) (by simp; omega) ?_; intro v' w3 hown3 hg3 hw3 hv3; obtain ⟨g3, kc3, rfl⟩ := hv3; have HG3 := hid hg3; have HR3 := hid hown3; clear hg3 hown3 hw3) | (go_at_call 33; refine HC.out.mono ?_; rintro e w2 ⟨rfl, hg2, n2, D2, hn2, hown2, hgd2⟩; have hzz := hg2.size; have HG2 := hid hg2; have HO2 := hid hown2; have HD2 := hid hgd2; clear hg2 hown2 hgd2))
        go_roundw
        case rel =>
          have h3 := HDR.out
          have hlo := HROW.out.lt
          refine ⟨i + 1, kc3, some ⟨g3, 0, none⟩, xs ++ [m], D2, n2, by omega, by go_num, rfl, kc_snoc l i t xs m HTT.out hkc.out HCN.out, ?_, ?_, ?_, HD2.out, by omega⟩
          · rw [List.map_append]; exact HR3.out
          · exact ((HGR.out.trans HG2.out).trans (World.grownBy_alloc _ _ _)).andThen HG3.out (fun j e => .inl (hlo j e).1)
          · exact (HO2.out.alloc _).kept HG3.out (fun e => by have := (hlo b e.symm).1; omega)
        case measure => simp [intOf]; omega
    · have hin : i = 2 := by omega
      have HI := hid hin
      clear hin
      go_wp2_with fail
      go_ret2
      have hk2 := hkc.out
      have hr2 := HROW.out
      rw [HI.out, List.take_of_length_le (Nat.le_of_eq HLEN.out)] at hk2
      refine ⟨(grown_any HB1.out _).trans HGR.out, ⟨n', D', by omega, HMP.out, HGD.out⟩, .inr ⟨xs, q, c, hk2, ?_, vals0_any hr2⟩⟩
      rw [HLEN.out, ← HI.out]; rfl

set_option maxRecDepth 100000 in
set_option maxHeartbeats 2000000 in
theorem ofParts_thunk (x : Ty) (w : World) (b n : Nat) (D : DataW Unit) (hown : w.ownsMap Tryz.prog 9 (plainElem Tryz.prog 3) b n D) (hg : Good D) (hn : n + lenL [x] ≤ 1000000)
    (hof : ∀ (i : Nat) (t : Ty), ([x] : List Ty)[i]? = some t → ∀ W n D, W.ownsMap Tryz.prog 9 (plainElem Tryz.prog 3) b n D → Good D → n + t.write.length ≤ 1000000 → Calls Tryz.prog 33 #[.map (some b), t.val] W (CPost b n t.write.length (cntV t.cnt) W)) :
    Calls Tryz.prog 84 #[.map (some b), (Ty.thunk x).val] w (PartsPost [x] b n (lenL [x]) w) := by
  have mk := m_kids_thunk x.val
  have HOF := hid hof
  have HO := hid hown
  have HG := hid hg
  have hbl := hown.lt
  obtain ⟨l, hl⟩ : ∃ l, l = ([x] : List Ty) := ⟨_, rfl⟩
  have HK := hid (fun W => kids_thunk x W)
  rw [← hl] at hn HOF ⊢
  have HVL := hid (show ∀ (W : World) g, W.heap[g]? = some (.cells #[x.val] 36 (0, 0)) → ∀ j v, (l.map Ty.val)[j]? = some v → W.cell? ⟨g, 0 + j, none⟩ = some v from fun W g h j v hj => by
    rw [hl] at hj
    obtain ⟨b', o', hp, hc⟩ := vals_one h j v hj
    simp at hp; obtain ⟨rfl, rfl⟩ := hp; exact hc)
  have HLEN := hid (show l.length = 1 by rw [hl]; rfl)
  obtain ⟨T, hT⟩ : ∃ T, lenL l = T := ⟨_, rfl⟩
  rw [hT] at hn ⊢
  have HT := hid hT
  simp only [Ty.val]
  clear hof hown hg hl hT
  go_enter Tryz.func84, Tryz.ntmps84
  go_wp2_with (go_at_call 182; refine (HK.out _).mono ?_; rintro e w1 ⟨bk, rfl, hb0, hb1⟩; have HB1 := hid hb1; have hz1 := hb1.size; have HM1 := hid (HO.out.kept (row := none) (grown_any hb1 _) (by simp)); have HNE := hid (map_ne HM1.out hb0); have HVC := hid (HVL.out _ _ hb0); clear hb0 hb1)
  go_loopw [6, 13] (fun v u wr => ∃ (i c : Nat) (q : Option Addr) (xs : List Nat) (D' : DataW Unit) (n' : Nat), i ≤ 1 ∧ u = .int .i64 (i : Int) ∧ v = .slice q i c ∧ Hid (kc (l.take i) = some xs) ∧ wr.ownsRow w1.heap.size 3 1 (.slice q i c) i (xs.map fun (x : Nat) => Value.int .i64 (x : Int)) ∧
      w1.grownBy wr (some b) ∧ wr.ownsMap Tryz.prog 9 (plainElem Tryz.prog 3) b n' D' ∧ Good D' ∧ n' + lenL (l.drop i) ≤ n + T) (fun _ u _ => 1 - (intOf u).toNat)
  case atStart => exact ⟨0, 0, none, [], D, n, Nat.zero_le _, rfl, rfl, rfl, World.ownsRow_nil _ _ _ _, World.grownBy.refl _ _, HM1.out, HG.out, by rw [List.drop_zero, HT.out]; exact Nat.le_refl _⟩
  case round =>
    obtain ⟨i, c, q, xs, D', n', hi, rfl, rfl, hkc, hrow, hgr, hmp, hgd, hnn⟩ := hrel
    have HROW := hid hrow
    have HGR := hid hgr
    have HMP := hid hmp
    have HGD := hid hgd
    have hz := hgr.size
    clear hrow hgr hmp hgd
    by_cases hlt : i < 1
    · obtain ⟨t, ht⟩ : ∃ t, l[i]? = some t := ⟨_, List.getElem?_eq_getElem (by rw [HLEN.out]; exact hlt)⟩
      have hcc := HGR.out.cell (HVC.out i t.val (by simp [ht])) HNE.out
      have hdr := lenL_drop l i t ht
      have HC := hid (HOF.out i t ht wr n' D' HMP.out HGD.out (by omega))
      have HDR := hid hdr
      have HTT := hid ht
      obtain ⟨ui, vi, hvi⟩ := t.val_iface
      rw [hvi] at hcc HC
      rw [Nat.zero_add] at hcc
      clear ht hdr hvi
      cases hcnt : t.cnt with
      | none =>
        have HCN := hid hcnt
        rw [show cntV t.cnt = -1 by rw [hcnt]; rfl] at HC
        clear hcnt
        go_wp2_with (go_at_call 33; refine HC.out.mono ?_; rintro e w2 ⟨rfl, hg2, n2, D2, hn2, hown2, hgd2⟩; have HG2 := hid hg2; have HO2 := hid hown2; have HD2 := hid hgd2; clear hg2 hown2 hgd2)
        go_ret2
        have h3 := HDR.out
        exact ⟨((grown_any HB1.out _).trans HGR.out).trans HG2.out, ⟨n2, D2, by omega, HO2.out, HD2.out⟩, .inl ⟨kc_none l i t HTT.out HCN.out, rfl⟩⟩
      | some m =>
        have HCN := hid hcnt
        have hm := cnt_range t m hcnt
        rw [show cntV t.cnt = (m : Int) by rw [hcnt]; rfl] at HC
        obtain ⟨i0, hi0, hz0, hz1', hz2⟩ := info_parts Tryz.infoInt
        clear hcnt
        go_wp2_with (first | (at_builtin; refine wpList_append_at _ rfl (.tmp 22) (.tmp 24) 96 rfl w1.heap.size 3 i0 (.int .i64 0) 1 8 Tryz.underlying96 hi0 hz0 hz1' hz2 rfl (by decide) (.slice q i c) i _ rfl ((HROW.out.kept HG2.out (Or.inr (fun e => by have := (HROW.out.lt b e).1; omega))).alloc _) ⟨w2.heap.size, 0, none⟩ 1 1 [.int .i64 (m : Int)] rfl rfl (cells_new1 _ _ _ _ rfl) (by intro u hu; simp at hu; subst hu; rfl) (by decide) (by unfold maxLen; omega) (by omega) (by simp; omega) ?_; intro v' w3 hown3 hg3 hw3 hv3; obtain ⟨g3, kc3, rfl⟩ := hv3; have HG3 := hid hg3; have HR3 := hid hown3; clear hg3 hown3 hw3) | (go_at_call 33; refine HC.out.mono ?_; rintro e w2 ⟨rfl, hg2, n2, D2, hn2, hown2, hgd2⟩; have hzz := hg2.size; have HG2 := hid hg2; have HO2 := hid hown2; have HD2 := hid hgd2; clear hg2 hown2 hgd2))
        go_roundw
        case rel =>
          have h3 := HDR.out
          have hlo := HROW.out.lt
          refine ⟨i + 1, kc3, some ⟨g3, 0, none⟩, xs ++ [m], D2, n2, by omega, by go_num, rfl, kc_snoc l i t xs m HTT.out hkc.out HCN.out, ?_, ?_, ?_, HD2.out, by omega⟩
          · rw [List.map_append]; exact HR3.out
          · exact ((HGR.out.trans HG2.out).trans (World.grownBy_alloc _ _ _)).andThen HG3.out (fun j e => .inl (hlo j e).1)
          · exact (HO2.out.alloc _).kept HG3.out (fun e => by have := (hlo b e.symm).1; omega)
        case measure => simp [intOf]; omega
    · have hin : i = 1 := by omega
      have HI := hid hin
      clear hin
      go_wp2_with fail
      go_ret2
      have hk2 := hkc.out
      have hr2 := HROW.out
      rw [HI.out, List.take_of_length_le (Nat.le_of_eq HLEN.out)] at hk2
      refine ⟨(grown_any HB1.out _).trans HGR.out, ⟨n', D', by omega, HMP.out, HGD.out⟩, .inr ⟨xs, q, c, hk2, ?_, vals0_any hr2⟩⟩
      rw [HLEN.out, ← HI.out]; rfl

set_option maxRecDepth 100000 in
set_option maxHeartbeats 2000000 in
theorem ofParts_ret (x : Ty) (w : World) (b n : Nat) (D : DataW Unit) (hown : w.ownsMap Tryz.prog 9 (plainElem Tryz.prog 3) b n D) (hg : Good D) (hn : n + lenL [x] ≤ 1000000)
    (hof : ∀ (i : Nat) (t : Ty), ([x] : List Ty)[i]? = some t → ∀ W n D, W.ownsMap Tryz.prog 9 (plainElem Tryz.prog 3) b n D → Good D → n + t.write.length ≤ 1000000 → Calls Tryz.prog 33 #[.map (some b), t.val] W (CPost b n t.write.length (cntV t.cnt) W)) :
    Calls Tryz.prog 84 #[.map (some b), (Ty.ret x).val] w (PartsPost [x] b n (lenL [x]) w) := by
  have mk := m_kids_ret x.val
  have HOF := hid hof
  have HO := hid hown
  have HG := hid hg
  have hbl := hown.lt
  obtain ⟨l, hl⟩ : ∃ l, l = ([x] : List Ty) := ⟨_, rfl⟩
  have HK := hid (fun W => kids_ret x W)
  rw [← hl] at hn HOF ⊢
  have HVL := hid (show ∀ (W : World) g, W.heap[g]? = some (.cells #[x.val] 36 (0, 0)) → ∀ j v, (l.map Ty.val)[j]? = some v → W.cell? ⟨g, 0 + j, none⟩ = some v from fun W g h j v hj => by
    rw [hl] at hj
    obtain ⟨b', o', hp, hc⟩ := vals_one h j v hj
    simp at hp; obtain ⟨rfl, rfl⟩ := hp; exact hc)
  have HLEN := hid (show l.length = 1 by rw [hl]; rfl)
  obtain ⟨T, hT⟩ : ∃ T, lenL l = T := ⟨_, rfl⟩
  rw [hT] at hn ⊢
  have HT := hid hT
  simp only [Ty.val]
  clear hof hown hg hl hT
  go_enter Tryz.func84, Tryz.ntmps84
  go_wp2_with (go_at_call 186; refine (HK.out _).mono ?_; rintro e w1 ⟨bk, rfl, hb0, hb1⟩; have HB1 := hid hb1; have hz1 := hb1.size; have HM1 := hid (HO.out.kept (row := none) (grown_any hb1 _) (by simp)); have HNE := hid (map_ne HM1.out hb0); have HVC := hid (HVL.out _ _ hb0); clear hb0 hb1)
  go_loopw [6, 13] (fun v u wr => ∃ (i c : Nat) (q : Option Addr) (xs : List Nat) (D' : DataW Unit) (n' : Nat), i ≤ 1 ∧ u = .int .i64 (i : Int) ∧ v = .slice q i c ∧ Hid (kc (l.take i) = some xs) ∧ wr.ownsRow w1.heap.size 3 1 (.slice q i c) i (xs.map fun (x : Nat) => Value.int .i64 (x : Int)) ∧
      w1.grownBy wr (some b) ∧ wr.ownsMap Tryz.prog 9 (plainElem Tryz.prog 3) b n' D' ∧ Good D' ∧ n' + lenL (l.drop i) ≤ n + T) (fun _ u _ => 1 - (intOf u).toNat)
  case atStart => exact ⟨0, 0, none, [], D, n, Nat.zero_le _, rfl, rfl, rfl, World.ownsRow_nil _ _ _ _, World.grownBy.refl _ _, HM1.out, HG.out, by rw [List.drop_zero, HT.out]; exact Nat.le_refl _⟩
  case round =>
    obtain ⟨i, c, q, xs, D', n', hi, rfl, rfl, hkc, hrow, hgr, hmp, hgd, hnn⟩ := hrel
    have HROW := hid hrow
    have HGR := hid hgr
    have HMP := hid hmp
    have HGD := hid hgd
    have hz := hgr.size
    clear hrow hgr hmp hgd
    by_cases hlt : i < 1
    · obtain ⟨t, ht⟩ : ∃ t, l[i]? = some t := ⟨_, List.getElem?_eq_getElem (by rw [HLEN.out]; exact hlt)⟩
      have hcc := HGR.out.cell (HVC.out i t.val (by simp [ht])) HNE.out
      have hdr := lenL_drop l i t ht
      have HC := hid (HOF.out i t ht wr n' D' HMP.out HGD.out (by omega))
      have HDR := hid hdr
      have HTT := hid ht
      obtain ⟨ui, vi, hvi⟩ := t.val_iface
      rw [hvi] at hcc HC
      rw [Nat.zero_add] at hcc
      clear ht hdr hvi
      cases hcnt : t.cnt with
      | none =>
        have HCN := hid hcnt
        rw [show cntV t.cnt = -1 by rw [hcnt]; rfl] at HC
        clear hcnt
        go_wp2_with (go_at_call 33; refine HC.out.mono ?_; rintro e w2 ⟨rfl, hg2, n2, D2, hn2, hown2, hgd2⟩; have HG2 := hid hg2; have HO2 := hid hown2; have HD2 := hid hgd2; clear hg2 hown2 hgd2)
        go_ret2
        have h3 := HDR.out
        exact ⟨((grown_any HB1.out _).trans HGR.out).trans HG2.out, ⟨n2, D2, by omega, HO2.out, HD2.out⟩, .inl ⟨kc_none l i t HTT.out HCN.out, rfl⟩⟩
      | some m =>
        have HCN := hid hcnt
        have hm := cnt_range t m hcnt
        rw [show cntV t.cnt = (m : Int) by rw [hcnt]; rfl] at HC
        obtain ⟨i0, hi0, hz0, hz1', hz2⟩ := info_parts Tryz.infoInt
        clear hcnt
        go_wp2_with (first | (at_builtin; refine wpList_append_at _ rfl (.tmp 22) (.tmp 24) 96 rfl w1.heap.size 3 i0 (.int .i64 0) 1 8 Tryz.underlying96 hi0 hz0 hz1' hz2 rfl (by decide) (.slice q i c) i _ rfl ((HROW.out.kept HG2.out (Or.inr (fun e => by have := (HROW.out.lt b e).1; omega))).alloc _) ⟨w2.heap.size, 0, none⟩ 1 1 [.int .i64 (m : Int)] rfl rfl (cells_new1 _ _ _ _ rfl) (by intro u hu; simp at hu; subst hu; rfl) (by decide) (by unfold maxLen; omega) (by omega) (by simp; omega) ?_; intro v' w3 hown3 hg3 hw3 hv3; obtain ⟨g3, kc3, rfl⟩ := hv3; have HG3 := hid hg3; have HR3 := hid hown3; clear hg3 hown3 hw3) | (go_at_call 33; refine HC.out.mono ?_; rintro e w2 ⟨rfl, hg2, n2, D2, hn2, hown2, hgd2⟩; have hzz := hg2.size; have HG2 := hid hg2; have HO2 := hid hown2; have HD2 := hid hgd2; clear hg2 hown2 hgd2))
        go_roundw
        case rel =>
          have h3 := HDR.out
          have hlo := HROW.out.lt
          refine ⟨i + 1, kc3, some ⟨g3, 0, none⟩, xs ++ [m], D2, n2, by omega, by go_num, rfl, kc_snoc l i t xs m HTT.out hkc.out HCN.out, ?_, ?_, ?_, HD2.out, by omega⟩
          · rw [List.map_append]; exact HR3.out
          · exact ((HGR.out.trans HG2.out).trans (World.grownBy_alloc _ _ _)).andThen HG3.out (fun j e => .inl (hlo j e).1)
          · exact (HO2.out.alloc _).kept HG3.out (fun e => by have := (hlo b e.symm).1; omega)
        case measure => simp [intOf]; omega
    · have hin : i = 1 := by omega
      have HI := hid hin
      clear hin
      go_wp2_with fail
      go_ret2
      have hk2 := hkc.out
      have hr2 := HROW.out
      rw [HI.out, List.take_of_length_le (Nat.le_of_eq HLEN.out)] at hk2
      refine ⟨(grown_any HB1.out _).trans HGR.out, ⟨n', D', by omega, HMP.out, HGD.out⟩, .inr ⟨xs, q, c, hk2, ?_, vals0_any hr2⟩⟩
      rw [HLEN.out, ← HI.out]; rfl

set_option maxRecDepth 100000 in
set_option maxHeartbeats 2000000 in
theorem ofParts_fn (x y : Ty) (w : World) (b n : Nat) (D : DataW Unit) (hown : w.ownsMap Tryz.prog 9 (plainElem Tryz.prog 3) b n D) (hg : Good D) (hn : n + lenL [x, y] ≤ 1000000)
    (hof : ∀ (i : Nat) (t : Ty), ([x, y] : List Ty)[i]? = some t → ∀ W n D, W.ownsMap Tryz.prog 9 (plainElem Tryz.prog 3) b n D → Good D → n + t.write.length ≤ 1000000 → Calls Tryz.prog 33 #[.map (some b), t.val] W (CPost b n t.write.length (cntV t.cnt) W)) :
    Calls Tryz.prog 84 #[.map (some b), (Ty.fn x y).val] w (PartsPost [x, y] b n (lenL [x, y]) w) := by
  have mk := m_kids_fn x.val y.val
  have HOF := hid hof
  have HO := hid hown
  have HG := hid hg
  have hbl := hown.lt
  obtain ⟨l, hl⟩ : ∃ l, l = ([x, y] : List Ty) := ⟨_, rfl⟩
  have HK := hid (fun W => kids_fn x y W)
  rw [← hl] at hn HOF ⊢
  have HVL := hid (show ∀ (W : World) g, W.heap[g]? = some (.cells #[x.val, y.val] 36 (0, 0)) → ∀ j v, (l.map Ty.val)[j]? = some v → W.cell? ⟨g, 0 + j, none⟩ = some v from fun W g h j v hj => by
    rw [hl] at hj
    obtain ⟨b', o', hp, hc⟩ := vals_two h j v hj
    simp at hp; obtain ⟨rfl, rfl⟩ := hp; exact hc)
  have HLEN := hid (show l.length = 2 by rw [hl]; rfl)
  obtain ⟨T, hT⟩ : ∃ T, lenL l = T := ⟨_, rfl⟩
  rw [hT] at hn ⊢
  have HT := hid hT
  simp only [Ty.val]
  clear hof hown hg hl hT
  go_enter Tryz.func84, Tryz.ntmps84
  go_wp2_with (go_at_call 190; refine (HK.out _).mono ?_; rintro e w1 ⟨bk, rfl, hb0, hb1⟩; have HB1 := hid hb1; have hz1 := hb1.size; have HM1 := hid (HO.out.kept (row := none) (grown_any hb1 _) (by simp)); have HNE := hid (map_ne HM1.out hb0); have HVC := hid (HVL.out _ _ hb0); clear hb0 hb1)
  go_loopw [6, 13] (fun v u wr => ∃ (i c : Nat) (q : Option Addr) (xs : List Nat) (D' : DataW Unit) (n' : Nat), i ≤ 2 ∧ u = .int .i64 (i : Int) ∧ v = .slice q i c ∧ Hid (kc (l.take i) = some xs) ∧ wr.ownsRow w1.heap.size 3 1 (.slice q i c) i (xs.map fun (x : Nat) => Value.int .i64 (x : Int)) ∧
      w1.grownBy wr (some b) ∧ wr.ownsMap Tryz.prog 9 (plainElem Tryz.prog 3) b n' D' ∧ Good D' ∧ n' + lenL (l.drop i) ≤ n + T) (fun _ u _ => 2 - (intOf u).toNat)
  case atStart => exact ⟨0, 0, none, [], D, n, Nat.zero_le _, rfl, rfl, rfl, World.ownsRow_nil _ _ _ _, World.grownBy.refl _ _, HM1.out, HG.out, by rw [List.drop_zero, HT.out]; exact Nat.le_refl _⟩
  case round =>
    obtain ⟨i, c, q, xs, D', n', hi, rfl, rfl, hkc, hrow, hgr, hmp, hgd, hnn⟩ := hrel
    have HROW := hid hrow
    have HGR := hid hgr
    have HMP := hid hmp
    have HGD := hid hgd
    have hz := hgr.size
    clear hrow hgr hmp hgd
    by_cases hlt : i < 2
    · obtain ⟨t, ht⟩ : ∃ t, l[i]? = some t := ⟨_, List.getElem?_eq_getElem (by rw [HLEN.out]; exact hlt)⟩
      have hcc := HGR.out.cell (HVC.out i t.val (by simp [ht])) HNE.out
      have hdr := lenL_drop l i t ht
      have HC := hid (HOF.out i t ht wr n' D' HMP.out HGD.out (by omega))
      have HDR := hid hdr
      have HTT := hid ht
      obtain ⟨ui, vi, hvi⟩ := t.val_iface
      rw [hvi] at hcc HC
      rw [Nat.zero_add] at hcc
      clear ht hdr hvi
      cases hcnt : t.cnt with
      | none =>
        have HCN := hid hcnt
        rw [show cntV t.cnt = -1 by rw [hcnt]; rfl] at HC
        clear hcnt
        go_wp2_with (go_at_call 33; refine HC.out.mono ?_; rintro e w2 ⟨rfl, hg2, n2, D2, hn2, hown2, hgd2⟩; have HG2 := hid hg2; have HO2 := hid hown2; have HD2 := hid hgd2; clear hg2 hown2 hgd2)
        go_ret2
        have h3 := HDR.out
        exact ⟨((grown_any HB1.out _).trans HGR.out).trans HG2.out, ⟨n2, D2, by omega, HO2.out, HD2.out⟩, .inl ⟨kc_none l i t HTT.out HCN.out, rfl⟩⟩
      | some m =>
        have HCN := hid hcnt
        have hm := cnt_range t m hcnt
        rw [show cntV t.cnt = (m : Int) by rw [hcnt]; rfl] at HC
        obtain ⟨i0, hi0, hz0, hz1', hz2⟩ := info_parts Tryz.infoInt
        clear hcnt
        go_wp2_with (first | (at_builtin; refine wpList_append_at _ rfl (.tmp 22) (.tmp 24) 96 rfl w1.heap.size 3 i0 (.int .i64 0) 1 8 Tryz.underlying96 hi0 hz0 hz1' hz2 rfl (by decide) (.slice q i c) i _ rfl ((HROW.out.kept HG2.out (Or.inr (fun e => by have := (HROW.out.lt b e).1; omega))).alloc _) ⟨w2.heap.size, 0, none⟩ 1 1 [.int .i64 (m : Int)] rfl rfl (cells_new1 _ _ _ _ rfl) (by intro u hu; simp at hu; subst hu; rfl) (by decide) (by unfold maxLen; omega) (by omega) (by simp; omega) ?_; intro v' w3 hown3 hg3 hw3 hv3; obtain ⟨g3, kc3, rfl⟩ := hv3; have HG3 := hid hg3; have HR3 := hid hown3; clear hg3 hown3 hw3) | (go_at_call 33; refine HC.out.mono ?_; rintro e w2 ⟨rfl, hg2, n2, D2, hn2, hown2, hgd2⟩; have hzz := hg2.size; have HG2 := hid hg2; have HO2 := hid hown2; have HD2 := hid hgd2; clear hg2 hown2 hgd2))
        go_roundw
        case rel =>
          have h3 := HDR.out
          have hlo := HROW.out.lt
          refine ⟨i + 1, kc3, some ⟨g3, 0, none⟩, xs ++ [m], D2, n2, by omega, by go_num, rfl, kc_snoc l i t xs m HTT.out hkc.out HCN.out, ?_, ?_, ?_, HD2.out, by omega⟩
          · rw [List.map_append]; exact HR3.out
          · exact ((HGR.out.trans HG2.out).trans (World.grownBy_alloc _ _ _)).andThen HG3.out (fun j e => .inl (hlo j e).1)
          · exact (HO2.out.alloc _).kept HG3.out (fun e => by have := (hlo b e.symm).1; omega)
        case measure => simp [intOf]; omega
    · have hin : i = 2 := by omega
      have HI := hid hin
      clear hin
      go_wp2_with fail
      go_ret2
      have hk2 := hkc.out
      have hr2 := HROW.out
      rw [HI.out, List.take_of_length_le (Nat.le_of_eq HLEN.out)] at hk2
      refine ⟨(grown_any HB1.out _).trans HGR.out, ⟨n', D', by omega, HMP.out, HGD.out⟩, .inr ⟨xs, q, c, hk2, ?_, vals0_any hr2⟩⟩
      rw [HLEN.out, ← HI.out]; rfl

set_option maxRecDepth 100000 in
set_option maxHeartbeats 2000000 in
theorem ofParts_choice (x y : Ty) (w : World) (b n : Nat) (D : DataW Unit) (hown : w.ownsMap Tryz.prog 9 (plainElem Tryz.prog 3) b n D) (hg : Good D) (hn : n + lenL [x, y] ≤ 1000000)
    (hof : ∀ (i : Nat) (t : Ty), ([x, y] : List Ty)[i]? = some t → ∀ W n D, W.ownsMap Tryz.prog 9 (plainElem Tryz.prog 3) b n D → Good D → n + t.write.length ≤ 1000000 → Calls Tryz.prog 33 #[.map (some b), t.val] W (CPost b n t.write.length (cntV t.cnt) W)) :
    Calls Tryz.prog 84 #[.map (some b), (Ty.choice x y).val] w (PartsPost [x, y] b n (lenL [x, y]) w) := by
  have mk := m_kids_choice x.val y.val
  have HOF := hid hof
  have HO := hid hown
  have HG := hid hg
  have hbl := hown.lt
  obtain ⟨l, hl⟩ : ∃ l, l = ([x, y] : List Ty) := ⟨_, rfl⟩
  have HK := hid (fun W => kids_choice x y W)
  rw [← hl] at hn HOF ⊢
  have HVL := hid (show ∀ (W : World) g, W.heap[g]? = some (.cells #[x.val, y.val] 36 (0, 0)) → ∀ j v, (l.map Ty.val)[j]? = some v → W.cell? ⟨g, 0 + j, none⟩ = some v from fun W g h j v hj => by
    rw [hl] at hj
    obtain ⟨b', o', hp, hc⟩ := vals_two h j v hj
    simp at hp; obtain ⟨rfl, rfl⟩ := hp; exact hc)
  have HLEN := hid (show l.length = 2 by rw [hl]; rfl)
  obtain ⟨T, hT⟩ : ∃ T, lenL l = T := ⟨_, rfl⟩
  rw [hT] at hn ⊢
  have HT := hid hT
  simp only [Ty.val]
  clear hof hown hg hl hT
  go_enter Tryz.func84, Tryz.ntmps84
  go_wp2_with (go_at_call 178; refine (HK.out _).mono ?_; rintro e w1 ⟨bk, rfl, hb0, hb1⟩; have HB1 := hid hb1; have hz1 := hb1.size; have HM1 := hid (HO.out.kept (row := none) (grown_any hb1 _) (by simp)); have HNE := hid (map_ne HM1.out hb0); have HVC := hid (HVL.out _ _ hb0); clear hb0 hb1)
  go_loopw [6, 13] (fun v u wr => ∃ (i c : Nat) (q : Option Addr) (xs : List Nat) (D' : DataW Unit) (n' : Nat), i ≤ 2 ∧ u = .int .i64 (i : Int) ∧ v = .slice q i c ∧ Hid (kc (l.take i) = some xs) ∧ wr.ownsRow w1.heap.size 3 1 (.slice q i c) i (xs.map fun (x : Nat) => Value.int .i64 (x : Int)) ∧
      w1.grownBy wr (some b) ∧ wr.ownsMap Tryz.prog 9 (plainElem Tryz.prog 3) b n' D' ∧ Good D' ∧ n' + lenL (l.drop i) ≤ n + T) (fun _ u _ => 2 - (intOf u).toNat)
  case atStart => exact ⟨0, 0, none, [], D, n, Nat.zero_le _, rfl, rfl, rfl, World.ownsRow_nil _ _ _ _, World.grownBy.refl _ _, HM1.out, HG.out, by rw [List.drop_zero, HT.out]; exact Nat.le_refl _⟩
  case round =>
    obtain ⟨i, c, q, xs, D', n', hi, rfl, rfl, hkc, hrow, hgr, hmp, hgd, hnn⟩ := hrel
    have HROW := hid hrow
    have HGR := hid hgr
    have HMP := hid hmp
    have HGD := hid hgd
    have hz := hgr.size
    clear hrow hgr hmp hgd
    by_cases hlt : i < 2
    · obtain ⟨t, ht⟩ : ∃ t, l[i]? = some t := ⟨_, List.getElem?_eq_getElem (by rw [HLEN.out]; exact hlt)⟩
      have hcc := HGR.out.cell (HVC.out i t.val (by simp [ht])) HNE.out
      have hdr := lenL_drop l i t ht
      have HC := hid (HOF.out i t ht wr n' D' HMP.out HGD.out (by omega))
      have HDR := hid hdr
      have HTT := hid ht
      obtain ⟨ui, vi, hvi⟩ := t.val_iface
      rw [hvi] at hcc HC
      rw [Nat.zero_add] at hcc
      clear ht hdr hvi
      cases hcnt : t.cnt with
      | none =>
        have HCN := hid hcnt
        rw [show cntV t.cnt = -1 by rw [hcnt]; rfl] at HC
        clear hcnt
        go_wp2_with (go_at_call 33; refine HC.out.mono ?_; rintro e w2 ⟨rfl, hg2, n2, D2, hn2, hown2, hgd2⟩; have HG2 := hid hg2; have HO2 := hid hown2; have HD2 := hid hgd2; clear hg2 hown2 hgd2)
        go_ret2
        have h3 := HDR.out
        exact ⟨((grown_any HB1.out _).trans HGR.out).trans HG2.out, ⟨n2, D2, by omega, HO2.out, HD2.out⟩, .inl ⟨kc_none l i t HTT.out HCN.out, rfl⟩⟩
      | some m =>
        have HCN := hid hcnt
        have hm := cnt_range t m hcnt
        rw [show cntV t.cnt = (m : Int) by rw [hcnt]; rfl] at HC
        obtain ⟨i0, hi0, hz0, hz1', hz2⟩ := info_parts Tryz.infoInt
        clear hcnt
        go_wp2_with (first | (at_builtin; refine wpList_append_at _ rfl (.tmp 22) (.tmp 24) 96 rfl w1.heap.size 3 i0 (.int .i64 0) 1 8 Tryz.underlying96 hi0 hz0 hz1' hz2 rfl (by decide) (.slice q i c) i _ rfl ((HROW.out.kept HG2.out (Or.inr (fun e => by have := (HROW.out.lt b e).1; omega))).alloc _) ⟨w2.heap.size, 0, none⟩ 1 1 [.int .i64 (m : Int)] rfl rfl (cells_new1 _ _ _ _ rfl) (by intro u hu; simp at hu; subst hu; rfl) (by decide) (by unfold maxLen; omega) (by omega) (by simp; omega) ?_; intro v' w3 hown3 hg3 hw3 hv3; obtain ⟨g3, kc3, rfl⟩ := hv3; have HG3 := hid hg3; have HR3 := hid hown3; clear hg3 hown3 hw3) | (go_at_call 33; refine HC.out.mono ?_; rintro e w2 ⟨rfl, hg2, n2, D2, hn2, hown2, hgd2⟩; have hzz := hg2.size; have HG2 := hid hg2; have HO2 := hid hown2; have HD2 := hid hgd2; clear hg2 hown2 hgd2))
        go_roundw
        case rel =>
          have h3 := HDR.out
          have hlo := HROW.out.lt
          refine ⟨i + 1, kc3, some ⟨g3, 0, none⟩, xs ++ [m], D2, n2, by omega, by go_num, rfl, kc_snoc l i t xs m HTT.out hkc.out HCN.out, ?_, ?_, ?_, HD2.out, by omega⟩
          · rw [List.map_append]; exact HR3.out
          · exact ((HGR.out.trans HG2.out).trans (World.grownBy_alloc _ _ _)).andThen HG3.out (fun j e => .inl (hlo j e).1)
          · exact (HO2.out.alloc _).kept HG3.out (fun e => by have := (hlo b e.symm).1; omega)
        case measure => simp [intOf]; omega
    · have hin : i = 2 := by omega
      have HI := hid hin
      clear hin
      go_wp2_with fail
      go_ret2
      have hk2 := hkc.out
      have hr2 := HROW.out
      rw [HI.out, List.take_of_length_le (Nat.le_of_eq HLEN.out)] at hk2
      refine ⟨(grown_any HB1.out _).trans HGR.out, ⟨n', D', by omega, HMP.out, HGD.out⟩, .inr ⟨xs, q, c, hk2, ?_, vals0_any hr2⟩⟩
      rw [HLEN.out, ← HI.out]; rfl

set_option maxRecDepth 100000 in
theorem ofParts_bit (w : World) (b n : Nat) (D : DataW Unit) (hown : w.ownsMap Tryz.prog 9 (plainElem Tryz.prog 3) b n D) (hg : Good D) :
    Calls Tryz.prog 84 #[.map (some b), Ty.bit.val] w (PartsPost [] b n 0 w) := by
  have mk := m_kids_bit
  have HO := hid hown
  have HG := hid hg
  clear hown hg
  simp only [Ty.val]
  go_enter Tryz.func84, Tryz.ntmps84
  go_wp2_with (go_at_call 194; refine (kids_bit _).mono ?_; rintro e w1 ⟨rfl, hb1⟩)
  refine wp_loop_rounds 1 ?_
  rw [rounds_succ]
  go_wp2_with fail
  go_ret2
  exact ⟨grown_any hb1 _, ⟨n, D, Nat.le_refl _, HO.out.kept (row := none) (grown_any hb1 _) (by simp), HG.out⟩, .inr ⟨[], none, 0, rfl, rfl, fun i v h => by simp at h⟩⟩
theorem fromOk_cases {t : Ty} {z : Int} (h : fromOk t z) : (z ≤ 5000 ∧ cntV t.cnt = z) ∨ (5000 < z ∧ cntV t.cnt = -1) := by
  by_cases hz : z ≤ 5000
  · exact .inl ⟨hz, h.2.1 hz⟩
  · exact .inr ⟨by omega, by rw [h.2.2 (by omega)]; rfl⟩
theorem cells_of_vals {w : World} {q : Option Addr} {xs : List Value} {x : Value} (h : Vals w q xs) (h0 : xs[0]? = some x) : ∃ g, ∃ o, q = some ⟨g, o, none⟩ ∧ w.cell? ⟨g, o, none⟩ = some x := by
  obtain ⟨b, o, hq, hc⟩ := h 0 x h0
  exact ⟨b, o, hq, by simpa using hc⟩

set_option maxRecDepth 100000 in
set_option maxHeartbeats 2000000 in
theorem compute_bit (w : World) (b n K : Nat)
    (hp : Calls Tryz.prog 84 #[.map (some b), Ty.bit.val] w (PartsPost [] b n K w)) :
    Calls Tryz.prog 62 #[.map (some b), Ty.bit.val] w (CPost b n K (cntV Ty.bit.cnt) w) := by
  have mk := m_countFrom_bit 
  have HP := hid hp
  clear hp
  simp only [Ty.val] at HP ⊢
  have HK := hid (show kc [] = some [] from rfl)
  go_enter Tryz.func62, Tryz.ntmps62
  go_wp2_with (first | (go_at_call 84; refine HP.out.mono ?_; rintro e w1 hp; obtain ⟨⟨q, c, rfl, hv⟩, hg1, n1, D1, hn1, hown1, hgd1⟩ := hp.yes HK.out; have HG1 := hid hg1; have HO1 := hid hown1; have HD1 := hid hgd1; clear hp hg1 hown1 hgd1; clear hv) | (go_at_call 192; refine (countFrom_bit _ _ _ _).mono ?_; rintro e w2 ⟨⟨z, rfl, hz, hzb⟩, hb2⟩; have HZ := hid hz; have hz0 := hz.1; clear hz))
  all_goals
    go_ret
    refine ⟨ret_int ?_, HG1.out.trans (grown_any hb2 _), n1, D1, hn1, HO1.out.kept (row := none) (grown_any hb2 _) (by simp), HD1.out⟩
    rcases fromOk_cases HZ.out with ⟨h1, h2⟩ | ⟨h1, h2⟩ <;> omega

set_option maxRecDepth 100000 in
set_option maxHeartbeats 2000000 in
theorem compute_pair (x y : Ty) (w : World) (b n K : Nat)
    (hp : Calls Tryz.prog 84 #[.map (some b), (Ty.pair x y).val] w (PartsPost [x, y] b n K w)) :
    Calls Tryz.prog 62 #[.map (some b), (Ty.pair x y).val] w (CPost b n K (cntV (Ty.pair x y).cnt) w) := by
  have mk := m_countFrom_pair x.val y.val
  have HP := hid hp
  clear hp
  simp only [Ty.val] at HP ⊢
  cases hx : x.cnt with
  | none =>
    have HK := hid (show kc [x, y] = none by simp [kc, hx])
    have HV := hid (show cntV (Ty.pair x y).cnt = -1 by simp [Ty.cnt, hx, cntV])
    clear hx mk
    go_enter Tryz.func62, Tryz.ntmps62
    go_wp2_with (go_at_call 84; refine HP.out.mono ?_; rintro e w1 hp; obtain ⟨rfl, hg1, n1, D1, hn1, hown1, hgd1⟩ := hp.no HK.out; have HG1 := hid hg1; have HO1 := hid hown1; have HD1 := hid hgd1; clear hp hg1 hown1 hgd1)
    go_ret
    exact ⟨ret_int HV.out.symm, HG1.out, n1, D1, hn1, HO1.out, HD1.out⟩
  | some xn =>
   cases hy : y.cnt with
   | none =>
    have HK := hid (show kc [x, y] = none by simp [kc, hx, hy])
    have HV := hid (show cntV (Ty.pair x y).cnt = -1 by simp [Ty.cnt, hx, hy, cntV])
    clear hx hy mk
    go_enter Tryz.func62, Tryz.ntmps62
    go_wp2_with (go_at_call 84; refine HP.out.mono ?_; rintro e w1 hp; obtain ⟨rfl, hg1, n1, D1, hn1, hown1, hgd1⟩ := hp.no HK.out; have HG1 := hid hg1; have HO1 := hid hown1; have HD1 := hid hgd1; clear hp hg1 hown1 hgd1)
    go_ret
    exact ⟨ret_int HV.out.symm, HG1.out, n1, D1, hn1, HO1.out, HD1.out⟩
   | some yn =>
    have HK := hid (show kc [x, y] = some [xn, yn] by simp [kc, hx, hy])
    have HX := hid hx
    have HY := hid hy
    clear hx hy
    go_enter Tryz.func62, Tryz.ntmps62
    go_wp2_with (first | (go_at_call 84; refine HP.out.mono ?_; rintro e w1 hp; obtain ⟨⟨q, c, rfl, hv⟩, hg1, n1, D1, hn1, hown1, hgd1⟩ := hp.yes HK.out; have HG1 := hid hg1; have HO1 := hid hown1; have HD1 := hid hgd1; clear hp hg1 hown1 hgd1; obtain ⟨g, rfl, c0⟩ := hv 0 _ rfl; obtain ⟨g2, hq2, c1⟩ := hv 1 _ rfl; have hqq : g2 = g := (by simp at hq2; exact hq2.symm); rw [hqq] at c1; have C0 := hid c0; have C1 := hid c1; clear c0 c1 hq2 hqq; clear hv) | (go_at_call 172; refine (countFrom_pair x y xn yn g _ _ HX.out HY.out C0.out C1.out).mono ?_; rintro e w2 ⟨⟨z, rfl, hz, hzb⟩, hb2⟩; have HZ := hid hz; have hz0 := hz.1; clear hz))
    all_goals
      go_ret
      refine ⟨ret_int ?_, HG1.out.trans (grown_any hb2 _), n1, D1, hn1, HO1.out.kept (row := none) (grown_any hb2 _) (by simp), HD1.out⟩
      rcases fromOk_cases HZ.out with ⟨h1, h2⟩ | ⟨h1, h2⟩ <;> omega

set_option maxRecDepth 100000 in
set_option maxHeartbeats 2000000 in
theorem compute_thunk (x : Ty) (w : World) (b n K : Nat)
    (hp : Calls Tryz.prog 84 #[.map (some b), (Ty.thunk x).val] w (PartsPost [x] b n K w)) :
    Calls Tryz.prog 62 #[.map (some b), (Ty.thunk x).val] w (CPost b n K (cntV (Ty.thunk x).cnt) w) := by
  have mk := m_countFrom_thunk x.val
  have HP := hid hp
  clear hp
  simp only [Ty.val] at HP ⊢
  cases hx : x.cnt with
  | none =>
    have HK := hid (show kc [x] = none by simp [kc, hx])
    have HV := hid (show cntV (Ty.thunk x).cnt = -1 by simp [Ty.cnt, hx, cntV])
    clear hx mk
    go_enter Tryz.func62, Tryz.ntmps62
    go_wp2_with (go_at_call 84; refine HP.out.mono ?_; rintro e w1 hp; obtain ⟨rfl, hg1, n1, D1, hn1, hown1, hgd1⟩ := hp.no HK.out; have HG1 := hid hg1; have HO1 := hid hown1; have HD1 := hid hgd1; clear hp hg1 hown1 hgd1)
    go_ret
    exact ⟨ret_int HV.out.symm, HG1.out, n1, D1, hn1, HO1.out, HD1.out⟩
  | some xn =>
    have HK := hid (show kc [x] = some [xn] by simp [kc, hx])
    have HX := hid hx
    clear hx
    go_enter Tryz.func62, Tryz.ntmps62
    go_wp2_with (first | (go_at_call 84; refine HP.out.mono ?_; rintro e w1 hp; obtain ⟨⟨q, c, rfl, hv⟩, hg1, n1, D1, hn1, hown1, hgd1⟩ := hp.yes HK.out; have HG1 := hid hg1; have HO1 := hid hown1; have HD1 := hid hgd1; clear hp hg1 hown1 hgd1; obtain ⟨g, rfl, c0⟩ := hv 0 _ rfl; have C0 := hid c0; clear c0; clear hv) | (go_at_call 180; refine (countFrom_thunk x xn g _ _ HX.out C0.out).mono ?_; rintro e w2 ⟨⟨z, rfl, hz, hzb⟩, hb2⟩; have HZ := hid hz; have hz0 := hz.1; clear hz))
    all_goals
      go_ret
      refine ⟨ret_int ?_, HG1.out.trans (grown_any hb2 _), n1, D1, hn1, HO1.out.kept (row := none) (grown_any hb2 _) (by simp), HD1.out⟩
      rcases fromOk_cases HZ.out with ⟨h1, h2⟩ | ⟨h1, h2⟩ <;> omega

set_option maxRecDepth 100000 in
set_option maxHeartbeats 2000000 in
theorem compute_ret (x : Ty) (w : World) (b n K : Nat)
    (hp : Calls Tryz.prog 84 #[.map (some b), (Ty.ret x).val] w (PartsPost [x] b n K w)) :
    Calls Tryz.prog 62 #[.map (some b), (Ty.ret x).val] w (CPost b n K (cntV (Ty.ret x).cnt) w) := by
  have mk := m_countFrom_ret x.val
  have HP := hid hp
  clear hp
  simp only [Ty.val] at HP ⊢
  cases hx : x.cnt with
  | none =>
    have HK := hid (show kc [x] = none by simp [kc, hx])
    have HV := hid (show cntV (Ty.ret x).cnt = -1 by simp [Ty.cnt, hx, cntV])
    clear hx mk
    go_enter Tryz.func62, Tryz.ntmps62
    go_wp2_with (go_at_call 84; refine HP.out.mono ?_; rintro e w1 hp; obtain ⟨rfl, hg1, n1, D1, hn1, hown1, hgd1⟩ := hp.no HK.out; have HG1 := hid hg1; have HO1 := hid hown1; have HD1 := hid hgd1; clear hp hg1 hown1 hgd1)
    go_ret
    exact ⟨ret_int HV.out.symm, HG1.out, n1, D1, hn1, HO1.out, HD1.out⟩
  | some xn =>
    have HK := hid (show kc [x] = some [xn] by simp [kc, hx])
    have HX := hid hx
    clear hx
    go_enter Tryz.func62, Tryz.ntmps62
    go_wp2_with (first | (go_at_call 84; refine HP.out.mono ?_; rintro e w1 hp; obtain ⟨⟨q, c, rfl, hv⟩, hg1, n1, D1, hn1, hown1, hgd1⟩ := hp.yes HK.out; have HG1 := hid hg1; have HO1 := hid hown1; have HD1 := hid hgd1; clear hp hg1 hown1 hgd1; obtain ⟨g, rfl, c0⟩ := hv 0 _ rfl; have C0 := hid c0; clear c0; clear hv) | (go_at_call 184; refine (countFrom_ret x xn g _ _ HX.out C0.out).mono ?_; rintro e w2 ⟨⟨z, rfl, hz, hzb⟩, hb2⟩; have HZ := hid hz; have hz0 := hz.1; clear hz))
    all_goals
      go_ret
      refine ⟨ret_int ?_, HG1.out.trans (grown_any hb2 _), n1, D1, hn1, HO1.out.kept (row := none) (grown_any hb2 _) (by simp), HD1.out⟩
      rcases fromOk_cases HZ.out with ⟨h1, h2⟩ | ⟨h1, h2⟩ <;> omega

set_option maxRecDepth 100000 in
set_option maxHeartbeats 2000000 in
theorem compute_fn (x y : Ty) (w : World) (b n K : Nat)
    (hp : Calls Tryz.prog 84 #[.map (some b), (Ty.fn x y).val] w (PartsPost [x, y] b n K w)) :
    Calls Tryz.prog 62 #[.map (some b), (Ty.fn x y).val] w (CPost b n K (cntV (Ty.fn x y).cnt) w) := by
  have mk := m_countFrom_fn x.val y.val
  have HP := hid hp
  clear hp
  simp only [Ty.val] at HP ⊢
  cases hx : x.cnt with
  | none =>
    have HK := hid (show kc [x, y] = none by simp [kc, hx])
    have HV := hid (show cntV (Ty.fn x y).cnt = -1 by simp [Ty.cnt, hx, cntV])
    clear hx mk
    go_enter Tryz.func62, Tryz.ntmps62
    go_wp2_with (go_at_call 84; refine HP.out.mono ?_; rintro e w1 hp; obtain ⟨rfl, hg1, n1, D1, hn1, hown1, hgd1⟩ := hp.no HK.out; have HG1 := hid hg1; have HO1 := hid hown1; have HD1 := hid hgd1; clear hp hg1 hown1 hgd1)
    go_ret
    exact ⟨ret_int HV.out.symm, HG1.out, n1, D1, hn1, HO1.out, HD1.out⟩
  | some xn =>
   cases hy : y.cnt with
   | none =>
    have HK := hid (show kc [x, y] = none by simp [kc, hx, hy])
    have HV := hid (show cntV (Ty.fn x y).cnt = -1 by simp [Ty.cnt, hx, hy, cntV])
    clear hx hy mk
    go_enter Tryz.func62, Tryz.ntmps62
    go_wp2_with (go_at_call 84; refine HP.out.mono ?_; rintro e w1 hp; obtain ⟨rfl, hg1, n1, D1, hn1, hown1, hgd1⟩ := hp.no HK.out; have HG1 := hid hg1; have HO1 := hid hown1; have HD1 := hid hgd1; clear hp hg1 hown1 hgd1)
    go_ret
    exact ⟨ret_int HV.out.symm, HG1.out, n1, D1, hn1, HO1.out, HD1.out⟩
   | some yn =>
    have HK := hid (show kc [x, y] = some [xn, yn] by simp [kc, hx, hy])
    have HX := hid hx
    have HY := hid hy
    clear hx hy
    go_enter Tryz.func62, Tryz.ntmps62
    go_wp2_with (first | (go_at_call 84; refine HP.out.mono ?_; rintro e w1 hp; obtain ⟨⟨q, c, rfl, hv⟩, hg1, n1, D1, hn1, hown1, hgd1⟩ := hp.yes HK.out; have HG1 := hid hg1; have HO1 := hid hown1; have HD1 := hid hgd1; clear hp hg1 hown1 hgd1; obtain ⟨g, rfl, c0⟩ := hv 0 _ rfl; obtain ⟨g2, hq2, c1⟩ := hv 1 _ rfl; have hqq : g2 = g := (by simp at hq2; exact hq2.symm); rw [hqq] at c1; have C0 := hid c0; have C1 := hid c1; clear c0 c1 hq2 hqq; clear hv) | (go_at_call 188; refine (countFrom_fn x y xn yn g _ _ HX.out HY.out C0.out C1.out).mono ?_; rintro e w2 ⟨⟨z, rfl, hz, hzb⟩, hb2⟩; have HZ := hid hz; have hz0 := hz.1; clear hz))
    all_goals
      go_ret
      refine ⟨ret_int ?_, HG1.out.trans (grown_any hb2 _), n1, D1, hn1, HO1.out.kept (row := none) (grown_any hb2 _) (by simp), HD1.out⟩
      rcases fromOk_cases HZ.out with ⟨h1, h2⟩ | ⟨h1, h2⟩ <;> omega

set_option maxRecDepth 100000 in
set_option maxHeartbeats 2000000 in
theorem compute_choice (x y : Ty) (w : World) (b n K : Nat)
    (hp : Calls Tryz.prog 84 #[.map (some b), (Ty.choice x y).val] w (PartsPost [x, y] b n K w)) :
    Calls Tryz.prog 62 #[.map (some b), (Ty.choice x y).val] w (CPost b n K (cntV (Ty.choice x y).cnt) w) := by
  have mk := m_countFrom_choice x.val y.val
  have HP := hid hp
  clear hp
  simp only [Ty.val] at HP ⊢
  cases hx : x.cnt with
  | none =>
    have HK := hid (show kc [x, y] = none by simp [kc, hx])
    have HV := hid (show cntV (Ty.choice x y).cnt = -1 by simp [Ty.cnt, hx, cntV])
    clear hx mk
    go_enter Tryz.func62, Tryz.ntmps62
    go_wp2_with (go_at_call 84; refine HP.out.mono ?_; rintro e w1 hp; obtain ⟨rfl, hg1, n1, D1, hn1, hown1, hgd1⟩ := hp.no HK.out; have HG1 := hid hg1; have HO1 := hid hown1; have HD1 := hid hgd1; clear hp hg1 hown1 hgd1)
    go_ret
    exact ⟨ret_int HV.out.symm, HG1.out, n1, D1, hn1, HO1.out, HD1.out⟩
  | some xn =>
   cases hy : y.cnt with
   | none =>
    have HK := hid (show kc [x, y] = none by simp [kc, hx, hy])
    have HV := hid (show cntV (Ty.choice x y).cnt = -1 by simp [Ty.cnt, hx, hy, cntV])
    clear hx hy mk
    go_enter Tryz.func62, Tryz.ntmps62
    go_wp2_with (go_at_call 84; refine HP.out.mono ?_; rintro e w1 hp; obtain ⟨rfl, hg1, n1, D1, hn1, hown1, hgd1⟩ := hp.no HK.out; have HG1 := hid hg1; have HO1 := hid hown1; have HD1 := hid hgd1; clear hp hg1 hown1 hgd1)
    go_ret
    exact ⟨ret_int HV.out.symm, HG1.out, n1, D1, hn1, HO1.out, HD1.out⟩
   | some yn =>
    have HK := hid (show kc [x, y] = some [xn, yn] by simp [kc, hx, hy])
    have HX := hid hx
    have HY := hid hy
    clear hx hy
    go_enter Tryz.func62, Tryz.ntmps62
    go_wp2_with (first | (go_at_call 84; refine HP.out.mono ?_; rintro e w1 hp; obtain ⟨⟨q, c, rfl, hv⟩, hg1, n1, D1, hn1, hown1, hgd1⟩ := hp.yes HK.out; have HG1 := hid hg1; have HO1 := hid hown1; have HD1 := hid hgd1; clear hp hg1 hown1 hgd1; obtain ⟨g, rfl, c0⟩ := hv 0 _ rfl; obtain ⟨g2, hq2, c1⟩ := hv 1 _ rfl; have hqq : g2 = g := (by simp at hq2; exact hq2.symm); rw [hqq] at c1; have C0 := hid c0; have C1 := hid c1; clear c0 c1 hq2 hqq; clear hv) | (go_at_call 176; refine (countFrom_choice x y xn yn g _ _ HX.out HY.out C0.out C1.out).mono ?_; rintro e w2 ⟨⟨z, rfl, hz, hzb⟩, hb2⟩; have HZ := hid hz; have hz0 := hz.1; clear hz))
    all_goals
      go_ret
      refine ⟨ret_int ?_, HG1.out.trans (grown_any hb2 _), n1, D1, hn1, HO1.out.kept (row := none) (grown_any hb2 _) (by simp), HD1.out⟩
      rcases fromOk_cases HZ.out with ⟨h1, h2⟩ | ⟨h1, h2⟩ <;> omega
end Go.Proofs.YtagifgekhboinaaGreatDoor

namespace Go.Proofs.YtagifgekhboinaaGreatDoor
open Go.RowKit Go.Maps

theorem CPost.up {b n k k' : Nat} {v : Int} {w w' : World} {e : Ending} (h : CPost b n k v w e w') (hk : k ≤ k') : CPost b n k' v w e w' :=
  let ⟨h1, h2, n', D', h3, h4, h5⟩ := h
  ⟨h1, h2, n', D', by omega, h4, h5⟩
/-- THE PROGRAM's COUNT OF A TYPE, over any map of counts that is right. -/
theorem count_any : ∀ (t : Ty), t.write.length ≤ 12000 → ∀ (w : World) (b n : Nat) (D : DataW Unit), w.ownsMap Tryz.prog 9 (plainElem Tryz.prog 3) b n D → Good D → n + t.write.length ≤ 1000000 →
    Calls Tryz.prog 33 #[.map (some b), t.val] w (CPost b n t.write.length (cntV t.cnt) w)
  | .bit, hs, w, b, n, D, ho, hg, hn => of_go .bit hs w b n D ho hg hn (by simp [Ty.write]) (fun W n D ho hg _ => (compute_bit W b n 0 (ofParts_bit W b n D ho hg)).mono fun _ _ h => h.up (Nat.zero_le _))
  | .pair x y, hs, w, b, n, D, ho, hg, hn => of_go (.pair x y) hs w b n D ho hg hn (by simp [Ty.write]) (fun W n D ho hg hn2 => (compute_pair x y W b n _ (ofParts_pair x y W b n D ho hg (by simp [lenL, Ty.write] at hn2 ⊢; omega) (by intro i t ht; match i, ht with | 0, ht => simp at ht; subst ht; exact fun W n D o g hn => count_any x (by simp [Ty.write] at hs; omega) W b n D o g hn | 1, ht => simp at ht; subst ht; exact fun W n D o g hn => count_any y (by simp [Ty.write] at hs; omega) W b n D o g hn))).mono fun _ _ h => h.up (by simp [lenL, Ty.write] <;> omega))
  | .thunk x, hs, w, b, n, D, ho, hg, hn => of_go (.thunk x) hs w b n D ho hg hn (by simp [Ty.write]) (fun W n D ho hg hn2 => (compute_thunk x W b n _ (ofParts_thunk x W b n D ho hg (by simp [lenL, Ty.write] at hn2 ⊢; omega) (by intro i t ht; match i, ht with | 0, ht => simp at ht; subst ht; exact fun W n D o g hn => count_any x (by simp [Ty.write] at hs; omega) W b n D o g hn))).mono fun _ _ h => h.up (by simp [lenL, Ty.write] <;> omega))
  | .ret x, hs, w, b, n, D, ho, hg, hn => of_go (.ret x) hs w b n D ho hg hn (by simp [Ty.write]) (fun W n D ho hg hn2 => (compute_ret x W b n _ (ofParts_ret x W b n D ho hg (by simp [lenL, Ty.write] at hn2 ⊢; omega) (by intro i t ht; match i, ht with | 0, ht => simp at ht; subst ht; exact fun W n D o g hn => count_any x (by simp [Ty.write] at hs; omega) W b n D o g hn))).mono fun _ _ h => h.up (by simp [lenL, Ty.write] <;> omega))
  | .fn x y, hs, w, b, n, D, ho, hg, hn => of_go (.fn x y) hs w b n D ho hg hn (by simp [Ty.write]) (fun W n D ho hg hn2 => (compute_fn x y W b n _ (ofParts_fn x y W b n D ho hg (by simp [lenL, Ty.write] at hn2 ⊢; omega) (by intro i t ht; match i, ht with | 0, ht => simp at ht; subst ht; exact fun W n D o g hn => count_any x (by simp [Ty.write] at hs; omega) W b n D o g hn | 1, ht => simp at ht; subst ht; exact fun W n D o g hn => count_any y (by simp [Ty.write] at hs; omega) W b n D o g hn))).mono fun _ _ h => h.up (by simp [lenL, Ty.write] <;> omega))
  | .choice x y, hs, w, b, n, D, ho, hg, hn => of_go (.choice x y) hs w b n D ho hg hn (by simp [Ty.write]) (fun W n D ho hg hn2 => (compute_choice x y W b n _ (ofParts_choice x y W b n D ho hg (by simp [lenL, Ty.write] at hn2 ⊢; omega) (by intro i t ht; match i, ht with | 0, ht => simp at ht; subst ht; exact fun W n D o g hn => count_any x (by simp [Ty.write] at hs; omega) W b n D o g hn | 1, ht => simp at ht; subst ht; exact fun W n D o g hn => count_any y (by simp [Ty.write] at hs; omega) W b n D o g hn))).mono fun _ _ h => h.up (by simp [lenL, Ty.write] <;> omega))
theorem grown_below {w w1 w2 : World} {o : Obj} (hb : Below w.heap.size w w1) (hg : (w1.alloc o).grownBy w2 (some w1.heap.size)) : Below w.heap.size w w2 := by
  have hz := hb.size
  have h1 := hb.alloc hz o
  exact ⟨hg.os.trans h1.os, hg.tape.trans h1.tape, hg.output.trans h1.output, Nat.le_trans h1.size hg.size, fun k hk => (hg.block k (Nat.lt_of_lt_of_le hk h1.size) (by intro e; simp at e; omega)).trans (h1.block k hk)⟩
end Go.Proofs.YtagifgekhboinaaGreatDoor

namespace Go.Proofs.YtagifgekhboinaaGreatDoor
open Go.RowKit Go.Maps

/-- Nothing but two blocks and new ones has turned. -/
structure Trn (b nb : Nat) (w w' : World) : Prop where
  os : w'.os = w.os
  tape : w'.tape = w.tape
  output : w'.output = w.output
  size : w.heap.size ≤ w'.heap.size
  block : ∀ k, k < w.heap.size → k ≠ b → k ≠ nb → w'.heap[k]? = w.heap[k]?
theorem Trn.refl (b nb : Nat) (w : World) : Trn b nb w w := ⟨rfl, rfl, rfl, Nat.le_refl _, fun _ _ _ _ => rfl⟩
theorem Trn.trans {b nb : Nat} {w w1 w2 : World} (h : Trn b nb w w1) (g : Trn b nb w1 w2) : Trn b nb w w2 :=
  ⟨g.os.trans h.os, g.tape.trans h.tape, g.output.trans h.output, Nat.le_trans h.size g.size, fun k hk h1 h2 => (g.block k (Nat.lt_of_lt_of_le hk h.size) h1 h2).trans (h.block k hk h1 h2)⟩
theorem Trn.below {b nb : Nat} {w w' : World} (h : Below w.heap.size w w') : Trn b nb w w' := ⟨h.os, h.tape, h.output, h.size, fun k hk _ _ => h.block k hk⟩
theorem Trn.map {b nb : Nat} {w w' : World} (h : w.grownBy w' (some b)) : Trn b nb w w' := ⟨h.os, h.tape, h.output, h.size, fun k hk h1 _ => h.block k hk (by simp; omega)⟩
theorem Trn.cnt {b nb : Nat} {w w' : World} (h : w.grownBy w' (some nb)) : Trn b nb w w' := ⟨h.os, h.tape, h.output, h.size, fun k hk _ h2 => h.block k hk (by simp; omega)⟩
theorem Trn.get {b nb : Nat} {w w' : World} (h : Trn b nb w w') {g : Nat} {o : Obj} (ho : w.heap[g]? = some o) (h1 : g ≠ b) (h2 : g ≠ nb) : w'.heap[g]? = some o := (h.block g (lt_of_block ho) h1 h2).trans ho
theorem Trn.alloc {b nb : Nat} (w : World) (o : Obj) : Trn b nb w (w.alloc o) := Trn.below ((Below.refl _ _).alloc (Nat.le_refl _) _)
/-- Behind new boxes, whatever turns. -/
theorem Trn.one (w : World) (o1 : Obj) {b nb : Nat} (hb : b < w.heap.size) (hn : nb < w.heap.size) {W : World} (hg : Trn b nb (w.alloc o1) W) : W.heap[w.heap.size]? = some o1 ∧ Trn b nb w W :=
  ⟨hg.get (heap_new w o1 _ rfl) (by omega) (by omega), (Trn.alloc w o1).trans hg⟩
theorem Trn.two (w : World) (o1 o2 : Obj) {b nb : Nat} (hb : b < w.heap.size) (hn : nb < w.heap.size) {W : World} (hg : Trn b nb ((w.alloc o1).alloc o2) W) : W.heap[w.heap.size]? = some o1 ∧ W.heap[w.heap.size + 1]? = some o2 ∧ Trn b nb w W := by
  have h2 := hg.get (heap_new (w.alloc o1) o2 (w.heap.size + 1) (by simp)) (by omega) (by omega)
  obtain ⟨h1, h3⟩ := Trn.one w o1 hb hn ((Trn.alloc (w.alloc o1) o2).trans hg)
  exact ⟨h1, h2, h3⟩
theorem Trn.cell {W : World} {b i : Nat} {cs : Array Value} {t : TypeId} {fr : Nat × Nat} {v : Value} (h : W.heap[b]? = some (.cells cs t fr)) (hv : cs[i]? = some v) : W.cell? ⟨b, i, none⟩ = some v := by
  simp [World.cell?, h, hv]

theorem grown_one (W : World) (b : Nat) (v : Value) : W.grownBy (W.setCell ⟨b, 0, none⟩ v) (some b) :=
  ⟨rfl, rfl, rfl, by show W.heap.size ≤ (W.heap.modify b _).size; simp, fun k _ hk => by
    show (W.heap.modify b _)[k]? = W.heap[k]?
    rw [Array.getElem?_modify]
    rw [if_neg (fun e => hk (by rw [e]))]⟩
theorem set_one {W : World} {b : Nat} {v : Value} {t : TypeId} (h : W.heap[b]? = some (.cells #[v] t (0, 0))) (u : Value) : (W.setCell ⟨b, 0, none⟩ u).heap[b]? = some (.cells #[u] t (0, 0)) := by
  have hlt := lt_of_block h
  have h' : W.heap[b] = .cells #[v] t (0, 0) := by simpa [Array.getElem?_eq_getElem hlt] using h
  show (W.heap.modify b _)[b]? = _
  rw [Array.getElem?_eq_getElem (by simpa using hlt), Array.getElem_modify_self, h']; rfl
theorem one_of {W : World} {b : Nat} {v : Value} {t : TypeId} (h : W.heap[b]? = some (.cells #[v] t (0, 0))) : W.cell? ⟨b, 0, none⟩ = some v ∧ W.frozen? ⟨b, 0, none⟩ = false := by
  simp [World.cell?, World.frozen?, h]

/-- What a definer stands on: its map of counts, and the next new name's number. -/
structure DIn (b nb n c : Nat) (D : DataW Unit) (w : World) : Prop where
  own : w.ownsMap Tryz.prog 9 (plainElem Tryz.prog 3) b n D
  good : Good D
  cnt : w.heap[nb]? = some (.cells #[.int .i64 (c : Int)] 3 (0, 0))
theorem DIn.ne {b nb n c : Nat} {D : DataW Unit} {w : World} (h : DIn b nb n c D w) : nb ≠ b := fun e => map_ne h.own h.cnt (by rw [e])
theorem DIn.lt {b nb n c : Nat} {D : DataW Unit} {w : World} (h : DIn b nb n c D w) : b < w.heap.size ∧ nb < w.heap.size := ⟨h.own.lt, lt_of_block h.cnt⟩
theorem DIn.below {b nb n c : Nat} {D : DataW Unit} {w w' : World} (h : DIn b nb n c D w) (hb : Below w.heap.size w w') : DIn b nb n c D w' :=
  ⟨h.own.kept (row := none) (grown_any hb _) (by simp), h.good, block_below h.cnt hb h.lt.2⟩
/-- What is left behind a call that makes a text. -/
def DPost (b nb n k c' : Nat) (txt : ByteArray) (w : World) (e : Ending) (w' : World) : Prop :=
  e = .returned (.string txt) ∧ Trn b nb w w' ∧ ∃ n' D', n' ≤ n + k ∧ DIn b nb n' c' D' w'
theorem DIn.count {b nb n c k : Nat} {v : Int} {D : DataW Unit} {w : World} {e : Ending} {w' : World} (h : DIn b nb n c D w) (hp : CPost b n k v w e w') :
    e = .returned (.int .i64 v) ∧ Trn b nb w w' ∧ ∃ n' D', n' ≤ n + k ∧ DIn b nb n' c D' w' := by
  obtain ⟨he, hg, n', D', hn, ho, hgd⟩ := hp
  exact ⟨he, Trn.map hg, n', D', hn, ho, hgd, (hg.block nb h.lt.2 (by have := h.ne; simp; omega)).trans h.cnt⟩
end Go.Proofs.YtagifgekhboinaaGreatDoor

namespace Go.Proofs.YtagifgekhboinaaGreatDoor
open Go.RowKit Go.Maps

theorem nm_dec (c : Nat) : ({ data := #[107] } : ByteArray) ++ decS c = nmB c := by
  unfold decS nmB; split <;> rfl
set_option maxRecDepth 100000 in
set_option maxHeartbeats 1000000 in
theorem newName_any (b nb n c : Nat) (D : DataW Unit) (hc : c < 99) (w : World) (hd : DIn b nb n c D w) : Calls Tryz.prog 81 #[.pointer (some ⟨nb, 0, none⟩)] w (DPost b nb n 0 (c + 1) (nmB c) w) := by
  have HS := hid (fun W => itoa_dec c (by omega) W)
  have HD := hid hd
  have h1 := (one_of hd.cnt).1
  have h2 := (one_of hd.cnt).2
  have h3 : ¬ 9223372036854775807 < 1 + (decS c).size := by have := dec_size c; omega
  have h4 : (c : Int) < 99 := by omega
  have HN := hid (nm_dec c)
  clear hd
  go_enter Tryz.func81, Tryz.ntmps81
  go_wp2_with (go_at_call 66; refine (HS.out _).mono ?_; rintro e w1 ⟨rfl, rfl⟩)
  go_ret
  have hg := grown_one w nb (.int .i64 ((c : Int) + 1))
  exact ⟨ret_str HN.out, Trn.cnt hg, n, D, by omega, HD.out.own.kept hg (by have := HD.out.ne; simp; omega), HD.out.good, set_one HD.out.cnt _⟩

set_option maxRecDepth 100000 in
set_option maxHeartbeats 1000000 in
theorem newNames_any (w : World) : Calls Tryz.prog 60 #[] w fun e w' => e = .returned (.func (.func 81) #[] #[.pointer (some ⟨w.heap.size, 0, none⟩)]) ∧ w' = w.alloc (.cells #[.int .i64 0] 3) := by
  go_enter Tryz.func60, Tryz.ntmps60
  go_wp2_with fail
  go_ret
  exact ⟨rfl, rfl⟩

theorem store_fn (a : Addr) (m : Mode) (f : FuncId) (c : Array Value) (w : World) : (store a (.func (.func f) #[] c) m).run Tryz.prog w = stored Tryz.prog w a (.func (.func f) #[] c) m := run_store Tryz.prog w a _ m rfl
set_option maxRecDepth 100000 in
set_option maxHeartbeats 1000000 in
theorem newDefiner_any (w : World) : Calls Tryz.prog 31 #[] w fun e w' => (∃ b nb, e = .returned (.agg #[.map (some b), .func (.func 81) #[] #[.pointer (some ⟨nb, 0, none⟩)]]) ∧ w.heap.size ≤ b ∧ w.heap.size ≤ nb ∧ DIn b nb 0 0 (.map []) w') ∧ Below w.heap.size w w' := by
  have HS := hid (fun W => newNames_any W)
  have hmm := @run_makeMap Tryz.prog
  have hsf := store_fn
  go_enter Tryz.func31, Tryz.ntmps31
  go_wp2_with (go_at_call 60; refine (HS.out _).mono ?_; rintro e w1 ⟨rfl, rfl⟩)
  refine bodyPost_ret (v := .agg #[.map (some (w.heap.size + 1)), .func (.func 81) #[] #[.pointer (some ⟨w.heap.size + 1 + 1, 0, none⟩)]]) (by simp [results, Tryz.results31, go_sem]) rfl ?_
  obtain ⟨w1, hw1⟩ : ∃ w1, w1 = w.alloc (.cells #[.map (some (w.heap.size + 1)), .func (.func 81) #[] #[.pointer (some ⟨w.heap.size + 1 + 1, 0, none⟩)]] 74) := ⟨_, rfl⟩
  have hs1 : w1.heap.size = w.heap.size + 1 := by rw [hw1]; simp
  have hb1 : Below w.heap.size w w1 := by rw [hw1]; exact (Below.refl _ _).alloc (Nat.le_refl _) _
  rw [← hw1]
  have hm := World.ownsMap_made (H := Unit) w1 Tryz.prog 9 (plainElem Tryz.prog 3)
  rw [hs1] at hm
  refine ⟨⟨w.heap.size + 1, w.heap.size + 1 + 1, rfl, by omega, by omega, hm.alloc _, good_none, heap_new _ _ _ (by simp [hs1])⟩, ?_⟩
  exact (hb1.alloc (by omega) _).alloc (by simp; omega) _
end Go.Proofs.YtagifgekhboinaaGreatDoor

namespace Go.Proofs.YtagifgekhboinaaGreatDoor
open Go.RowKit Go.Maps

theorem cntV_ge (o : Option Nat) : -1 ≤ cntV o := by
  cases o with
  | none => decide
  | some n => show -1 ≤ (n : Int); omega
theorem cntV_pos {o : Option Nat} {k : Int} (h0 : 0 ≤ k) (h : k < cntV o) : ∃ n, o = some n ∧ cntV o = (n : Int) := by
  cases o with
  | none => have : cntV none = -1 := rfl; omega
  | some n => exact ⟨n, rfl, rfl⟩
theorem isElement_any (k c : Int) (w : World) : Calls Tryz.prog 32 #[.int .i64 k, .int .i64 c] w fun e w' => e = .returned (.bool (decide (0 ≤ k ∧ k < c))) ∧ w = w' := by
  by_cases h0 : 0 ≤ k
  · by_cases h1 : k < c
    · have e : decide (0 ≤ k ∧ k < c) = true := decide_eq_true ⟨h0, h1⟩
      rw [e]
      go_enter Tryz.func32, Tryz.ntmps32
      go_wp2
      go_ret
      exact ⟨rfl, rfl⟩
    · have e : decide (0 ≤ k ∧ k < c) = false := decide_eq_false (fun h => h1 h.2)
      rw [e]
      go_enter Tryz.func32, Tryz.ntmps32
      go_wp2
      go_ret
      exact ⟨rfl, rfl⟩
  · have e : decide (0 ≤ k ∧ k < c) = false := decide_eq_false (fun h => h0 h.1)
    rw [e]
    go_enter Tryz.func32, Tryz.ntmps32
    go_wp2
    go_ret
    exact ⟨rfl, rfl⟩

end Go.Proofs.YtagifgekhboinaaGreatDoor

namespace Go.Proofs.YtagifgekhboinaaGreatDoor
open Go.RowKit Go.Maps

set_option maxRecDepth 100000 in
set_option maxHeartbeats 1000000 in
theorem specTypeCount_any (s : ByteArray) (hs : s.size ≤ 400000000) (w : World) : Calls Tryz.prog 56 #[.string s] w fun e w' => e = .returned (.int .i64 (cntO (readTy s))) ∧ Below w.heap.size w w' := by
  have HC := hid (fun W => l1Type_any s hs W)
  cases ht : typeTree s with
  | none =>
    have HR := hid (typeTree_none ht)
    have HT := hid ht
    clear ht
    go_enter Tryz.func56, Tryz.ntmps56
    go_wp2_with (go_at_call 19; refine (HC.out _).mono ?_; rintro e w1 hp; rw [HT.out] at hp; obtain ⟨pa, pp, pl, pc, rfl, hpl, hb1⟩ := hp.none; clear hp)
    go_ret
    exact ⟨ret_int (by rw [HR.out]; rfl), hb1.alloc hb1.size _⟩
  | some t =>
    obtain ⟨hpt, hsz, ty, hty, hrt, hk⟩ := typeTree_some ht
    have HR := hid hrt
    have HTY := hid hty
    have HT := hid ht
    clear ht hpt hty hrt hk
    go_enter Tryz.func56, Tryz.ntmps56
    go_wp2_with (first | (go_at_call 19; refine (HC.out _).mono ?_; rintro e w1 hp; rw [HT.out] at hp; obtain ⟨pa, pp, pl, pc, rfl, hb1, htr⟩ := hp.some; clear hp; have HD := hid (fun W hk hs => l1Count_any htr ty HTY.out W hk hs); clear htr) | (go_at_call 21; refine (HD.out _ ((Kept.refl _).alloc (Nat.le_refl _) _) (by simp)).mono ?_; rintro e w2 ⟨rfl, hb2⟩))
    go_ret
    have s1 := hb1.size
    exact ⟨ret_int (by rw [HR.out]; rfl), hb1.trans (((Below.refl _ _).alloc s1 _).trans (hb2.mono (by simp; omega)))⟩
end Go.Proofs.YtagifgekhboinaaGreatDoor
