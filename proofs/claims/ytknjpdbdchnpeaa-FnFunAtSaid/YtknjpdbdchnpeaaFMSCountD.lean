/- Merged: CountD. -/
import Derived.Maps.Range
import Derived.Test.YtknjpdbdchnpeaaFMSCountC
import Derived.Test.YtknjpdbdchnpeaaFM4
namespace Go.Proofs.Ytknjpdbdchnpeaa
open Go.RowKit Go.Maps

/-- The counts of parts, if all are known. -/
def kc : List Ty → Option (List Nat)
  | [] => some []
  | t :: ts => match t.cnt, kc ts with
    | some n, some ns => some (n :: ns)
    | _, _ => none
theorem kc_snoc : ∀ (l : List Ty) (i : Nat) (t : Ty) (xs : List Nat) (m : Nat), l[i]? = some t → kc (l.take i) = some xs → t.cnt = some m → kc (l.take (i + 1)) = some (xs ++ [m])
  | [], i, t, xs, m, h, _, _ => by simp at h
  | u :: l, 0, t, xs, m, h, hk, ht => by
    simp at h; subst h
    simp [kc] at hk; subst hk
    simp [kc, ht]
  | u :: l, i + 1, t, xs, m, h, hk, ht => by
    rw [List.take_succ_cons, kc] at hk ⊢
    cases hu : u.cnt with
    | none => rw [hu] at hk; simp at hk
    | some a =>
      rw [hu] at hk
      cases hr : kc (l.take i) with
      | none => rw [hr] at hk; simp at hk
      | some ns =>
        rw [hr] at hk; simp at hk; subst hk
        rw [kc_snoc l i t ns m (by simpa using h) hr ht]; rfl
theorem kc_none : ∀ (l : List Ty) (i : Nat) (t : Ty), l[i]? = some t → t.cnt = none → kc l = none
  | [], i, t, h, _ => by simp at h
  | u :: l, 0, t, h, ht => by simp at h; subst h; simp [kc, ht]
  | u :: l, i + 1, t, h, ht => by
    rw [kc, kc_none l i t (by simpa using h) ht]
    cases u.cnt <;> rfl
theorem kc_len : ∀ (l : List Ty) (xs : List Nat), kc l = some xs → xs.length = l.length
  | [], xs, h => by simp [kc] at h; subst h; rfl
  | u :: l, xs, h => by
    rw [kc] at h
    cases hu : u.cnt with
    | none => rw [hu] at h; simp at h
    | some a =>
      rw [hu] at h
      cases hr : kc l with
      | none => rw [hr] at h; simp at h
      | some ns => rw [hr] at h; simp at h; subst h; simp [kc_len l ns hr]
/-- Texts' lengths together. -/
def lenL : List Ty → Nat
  | [] => 0
  | t :: ts => t.write.length + lenL ts
theorem lenL_drop : ∀ (l : List Ty) (i : Nat) (t : Ty), l[i]? = some t → lenL (l.drop i) = t.write.length + lenL (l.drop (i + 1))
  | [], i, t, h => by simp at h
  | u :: l, 0, t, h => by simp at h; subst h; rfl
  | u :: l, i + 1, t, h => by simpa using lenL_drop l i t (by simpa using h)
theorem Try.infoInt : (Try.prog.info? 3).map (fun i => (i.zero, i.size, i.bytes)) = some (some (.int .i64 0), 1, 8) := by kernel_rfl
/-- A slice from a block's beginning reads as a list. -/
def Vals0 (w : World) (p : Option Addr) (l : List Value) : Prop := ∀ i v, l[i]? = some v → ∃ g, p = some ⟨g, 0, none⟩ ∧ w.cell? ⟨g, i, none⟩ = some v
theorem vals0_any {w : World} {base : Nat} {e : TypeId} {p : Option Addr} {n c : Nat} {xs : List Value} (h : w.ownsRow base e 1 (.slice p n c) n xs) : Vals0 w p xs := by
  rcases h.2 with ⟨_, hn⟩ | ⟨g, cap, cur, hv, _⟩
  · have : xs = [] := List.eq_nil_of_length_eq_zero (by have := h.1; omega)
    subst this; intro i v hv; simp at hv
  · obtain ⟨rfl, _⟩ : p = some ⟨g, 0, none⟩ ∧ c = cap := by simp at hv; exact hv
    intro i v hv
    have hc := h.cells (g := g) rfl i v hv
    have hadd : (⟨g, 0, none⟩ : Addr).add i = ⟨g, i, none⟩ := by unfold Addr.add; split <;> simp_all
    rw [hadd] at hc
    exact ⟨g, rfl, hc⟩
/-- What ofParts leaves. -/
def PartsPost (l : List Ty) (b n k : Nat) (w : World) (e : Ending) (w' : World) : Prop :=
  w.grownBy w' (some b) ∧ (∃ n' D', n' ≤ n + k ∧ w'.ownsMap Try.prog 9 (plainElem Try.prog 3) b n' D' ∧ Good D') ∧
  ((kc l = none ∧ e = .returned (.tuple #[.slice none 0 0, .bool false])) ∨ (∃ xs q c, kc l = some xs ∧ e = .returned (.tuple #[.slice q l.length c, .bool true]) ∧ Vals0 w' q (xs.map fun (x : Nat) => Value.int .i64 (x : Int))))
theorem PartsPost.no {l : List Ty} {b n k : Nat} {w w' : World} {e : Ending} (hk : kc l = none) (h : PartsPost l b n k w e w') :
    e = .returned (.tuple #[.slice none 0 0, .bool false]) ∧ w.grownBy w' (some b) ∧ ∃ n' D', n' ≤ n + k ∧ w'.ownsMap Try.prog 9 (plainElem Try.prog 3) b n' D' ∧ Good D' := by
  obtain ⟨h1, h2, ⟨_, h3⟩ | ⟨xs, _, _, h4, _⟩⟩ := h
  · exact ⟨h3, h1, h2⟩
  · rw [hk] at h4; cases h4
theorem PartsPost.yes {l : List Ty} {b n k : Nat} {w w' : World} {e : Ending} {xs : List Nat} (hk : kc l = some xs) (h : PartsPost l b n k w e w') :
    (∃ q c, e = .returned (.tuple #[.slice q l.length c, .bool true]) ∧ Vals0 w' q (xs.map fun (x : Nat) => Value.int .i64 (x : Int))) ∧ w.grownBy w' (some b) ∧ ∃ n' D', n' ≤ n + k ∧ w'.ownsMap Try.prog 9 (plainElem Try.prog 3) b n' D' ∧ Good D' := by
  obtain ⟨h1, h2, ⟨h4, _⟩ | ⟨ys, q, c, h4, h5, h6⟩⟩ := h
  · rw [hk] at h4; cases h4
  · rw [hk] at h4; simp at h4; subst h4; exact ⟨⟨q, c, h5, h6⟩, h1, h2⟩
theorem map_ne {w : World} {P : Program} {k : TypeId} {R : Value → Option (DataW Unit × List MemPlace)} {b n g : Nat} {D : DataW Unit} {cs : Array Value} {t : TypeId} {fr : Nat × Nat} (h : w.ownsMap P k R b n D) (hg : w.heap[g]? = some (.cells cs t fr)) : some g ≠ some b := by
  intro e
  obtain ⟨es, clock, hb, _⟩ := h
  simp at e; subst e
  rw [hb] at hg; cases hg

set_option maxRecDepth 100000 in
set_option maxHeartbeats 2000000 in
theorem ofParts_pair (x y : Ty) (w : World) (b n : Nat) (D : DataW Unit) (hown : w.ownsMap Try.prog 9 (plainElem Try.prog 3) b n D) (hg : Good D) (hn : n + lenL [x, y] ≤ 1000000)
    (hof : ∀ (i : Nat) (t : Ty), ([x, y] : List Ty)[i]? = some t → ∀ W n D, W.ownsMap Try.prog 9 (plainElem Try.prog 3) b n D → Good D → n + t.write.length ≤ 1000000 → Calls Try.prog 50 #[.map (some b), t.val] W (CPost b n t.write.length (cntV t.cnt) W)) :
    Calls Try.prog 77 #[.map (some b), (Ty.pair x y).val] w (PartsPost [x, y] b n (lenL [x, y]) w) := by
  have mk := m_kids_pair x.val y.val
  have HOF := hid hof
  have HO := hid hown
  have HG := hid hg
  have hbl := hown.lt
  obtain ⟨l, hl⟩ : ∃ l, l = ([x, y] : List Ty) := ⟨_, rfl⟩
  have HK := hid (fun W => kids_pair x y W)
  rw [← hl] at hn HOF ⊢
  have HVL := hid (show ∀ (W : World) g, W.heap[g]? = some (.cells #[x.val, y.val] 50 (0, 0)) → ∀ j v, (l.map Ty.val)[j]? = some v → W.cell? ⟨g, 0 + j, none⟩ = some v from fun W g h j v hj => by
    rw [hl] at hj
    obtain ⟨b', o', hp, hc⟩ := vals_two h j v hj
    simp at hp; obtain ⟨rfl, rfl⟩ := hp; exact hc)
  have HLEN := hid (show l.length = 2 by rw [hl]; rfl)
  obtain ⟨T, hT⟩ : ∃ T, lenL l = T := ⟨_, rfl⟩
  rw [hT] at hn ⊢
  have HT := hid hT
  simp only [Ty.val]
  clear hof hown hg hl hT
  go_enter Try.func77, Try.ntmps77
  go_wp2_with (go_at_call 134; refine (HK.out _).mono ?_; rintro e w1 ⟨bk, rfl, hb0, hb1⟩; have HB1 := hid hb1; have hz1 := hb1.size; have HM1 := hid (HO.out.kept (row := none) (grown_any hb1 _) (by simp)); have HNE := hid (map_ne HM1.out hb0); have HVC := hid (HVL.out _ _ hb0); clear hb0 hb1)
  go_loopw [6, 13] (fun v u wr => ∃ (i c : Nat) (q : Option Addr) (xs : List Nat) (D' : DataW Unit) (n' : Nat), i ≤ 2 ∧ u = .int .i64 (i : Int) ∧ v = .slice q i c ∧ Hid (kc (l.take i) = some xs) ∧ wr.ownsRow w1.heap.size 3 1 (.slice q i c) i (xs.map fun (x : Nat) => Value.int .i64 (x : Int)) ∧
      w1.grownBy wr (some b) ∧ wr.ownsMap Try.prog 9 (plainElem Try.prog 3) b n' D' ∧ Good D' ∧ n' + lenL (l.drop i) ≤ n + T) (fun _ u _ => 2 - (intOf u).toNat)
  case atStart => exact ⟨0, 0, none, [], D, n, Nat.zero_le _, rfl, rfl, rfl, World.ownsRow_nil _ _ _ _, World.grownBy.refl _ _, HM1.out, HG.out, by rw [List.drop_zero, HT.out]; exact Nat.le_refl _⟩
  case round =>
    obtain ⟨i, c, q, xs, D', n', hi, rfl, rfl, hkc, hrow, hgr, hmp, hgd, hnn⟩ := hrel
    have HROW := hid hrow
    have HGR := hid hgr
    have HMP := hid hmp
    have HGD := hid hgd
    have hz := hgr.size
    clear hrow hgr hmp hgd
    by_cases hlt : i < 2
    · obtain ⟨t, ht⟩ : ∃ t, l[i]? = some t := ⟨_, List.getElem?_eq_getElem (by rw [HLEN.out]; exact hlt)⟩
      have hcc := HGR.out.cell (HVC.out i t.val (by simp [ht])) HNE.out
      have hdr := lenL_drop l i t ht
      have HC := hid (HOF.out i t ht wr n' D' HMP.out HGD.out (by omega))
      have HDR := hid hdr
      have HTT := hid ht
      obtain ⟨ui, vi, hvi⟩ := t.val_iface
      rw [hvi] at hcc HC
      rw [Nat.zero_add] at hcc
      clear ht hdr hvi
      cases hcnt : t.cnt with
      | none =>
        have HCN := hid hcnt
        rw [show cntV t.cnt = -1 by rw [hcnt]; rfl] at HC
        clear hcnt
        go_wp2_with (go_at_call 50; refine HC.out.mono ?_; rintro e w2 ⟨rfl, hg2, n2, D2, hn2, hown2, hgd2⟩; have HG2 := hid hg2; have HO2 := hid hown2; have HD2 := hid hgd2; clear hg2 hown2 hgd2)
        go_ret2
        have h3 := HDR.out
        exact ⟨((grown_any HB1.out _).trans HGR.out).trans HG2.out, ⟨n2, D2, by omega, HO2.out, HD2.out⟩, .inl ⟨kc_none l i t HTT.out HCN.out, rfl⟩⟩
      | some m =>
        have HCN := hid hcnt
        have hm := cnt_range t m hcnt
        rw [show cntV t.cnt = (m : Int) by rw [hcnt]; rfl] at HC
        obtain ⟨i0, hi0, hz0, hz1', hz2⟩ := info_parts Try.infoInt
        clear hcnt
        go_wp2_with (first | (at_builtin; refine wpList_append_at _ rfl (.tmp 22) (.tmp 24) 44 rfl w1.heap.size 3 i0 (.int .i64 0) 1 8 Try.underlying44 hi0 hz0 hz1' hz2 rfl (by decide) (.slice q i c) i _ rfl ((HROW.out.kept HG2.out (Or.inr (fun e => by have := (HROW.out.lt b e).1; omega))).alloc _) ⟨w2.heap.size, 0, none⟩ 1 1 [.int .i64 (m : Int)] rfl rfl (cells_new1 _ _ _ _ rfl) (by intro u hu; simp at hu; subst hu; rfl) (by decide) (by unfold maxLen; omega) (by omega) (by simp; omega) ?_; intro v' w3 hown3 hg3 hw3 hv3; obtain ⟨g3, kc3, rfl⟩ := hv3; have HG3 := hid hg3; have HR3 := hid hown3; clear hg3 hown3 hw3) | (go_at_call 50; refine HC.out.mono ?_; rintro e w2 ⟨rfl, hg2, n2, D2, hn2, hown2, hgd2⟩; have hzz := hg2.size; have HG2 := hid hg2; have HO2 := hid hown2; have HD2 := hid hgd2; clear hg2 hown2 hgd2))
        go_roundw
        case rel =>
          have h3 := HDR.out
          have hlo := HROW.out.lt
          refine ⟨i + 1, kc3, some ⟨g3, 0, none⟩, xs ++ [m], D2, n2, by omega, by go_num, rfl, kc_snoc l i t xs m HTT.out hkc.out HCN.out, ?_, ?_, ?_, HD2.out, by omega⟩
          · rw [List.map_append]; exact HR3.out
          · exact ((HGR.out.trans HG2.out).trans (World.grownBy_alloc _ _ _)).andThen HG3.out (fun j e => .inl (hlo j e).1)
          · exact (HO2.out.alloc _).kept HG3.out (fun e => by have := (hlo b e.symm).1; omega)
        case measure => simp [intOf]; omega
    · have hin : i = 2 := by omega
      have HI := hid hin
      clear hin
      go_wp2_with fail
      go_ret2
      have hk2 := hkc.out
      have hr2 := HROW.out
      rw [HI.out, List.take_of_length_le (Nat.le_of_eq HLEN.out)] at hk2
      refine ⟨(grown_any HB1.out _).trans HGR.out, ⟨n', D', by omega, HMP.out, HGD.out⟩, .inr ⟨xs, q, c, hk2, ?_, vals0_any hr2⟩⟩
      rw [HLEN.out, ← HI.out]; rfl

set_option maxRecDepth 100000 in
set_option maxHeartbeats 2000000 in
theorem ofParts_thunk (x : Ty) (w : World) (b n : Nat) (D : DataW Unit) (hown : w.ownsMap Try.prog 9 (plainElem Try.prog 3) b n D) (hg : Good D) (hn : n + lenL [x] ≤ 1000000)
    (hof : ∀ (i : Nat) (t : Ty), ([x] : List Ty)[i]? = some t → ∀ W n D, W.ownsMap Try.prog 9 (plainElem Try.prog 3) b n D → Good D → n + t.write.length ≤ 1000000 → Calls Try.prog 50 #[.map (some b), t.val] W (CPost b n t.write.length (cntV t.cnt) W)) :
    Calls Try.prog 77 #[.map (some b), (Ty.thunk x).val] w (PartsPost [x] b n (lenL [x]) w) := by
  have mk := m_kids_thunk x.val
  have HOF := hid hof
  have HO := hid hown
  have HG := hid hg
  have hbl := hown.lt
  obtain ⟨l, hl⟩ : ∃ l, l = ([x] : List Ty) := ⟨_, rfl⟩
  have HK := hid (fun W => kids_thunk x W)
  rw [← hl] at hn HOF ⊢
  have HVL := hid (show ∀ (W : World) g, W.heap[g]? = some (.cells #[x.val] 50 (0, 0)) → ∀ j v, (l.map Ty.val)[j]? = some v → W.cell? ⟨g, 0 + j, none⟩ = some v from fun W g h j v hj => by
    rw [hl] at hj
    obtain ⟨b', o', hp, hc⟩ := vals_one h j v hj
    simp at hp; obtain ⟨rfl, rfl⟩ := hp; exact hc)
  have HLEN := hid (show l.length = 1 by rw [hl]; rfl)
  obtain ⟨T, hT⟩ : ∃ T, lenL l = T := ⟨_, rfl⟩
  rw [hT] at hn ⊢
  have HT := hid hT
  simp only [Ty.val]
  clear hof hown hg hl hT
  go_enter Try.func77, Try.ntmps77
  go_wp2_with (go_at_call 138; refine (HK.out _).mono ?_; rintro e w1 ⟨bk, rfl, hb0, hb1⟩; have HB1 := hid hb1; have hz1 := hb1.size; have HM1 := hid (HO.out.kept (row := none) (grown_any hb1 _) (by simp)); have HNE := hid (map_ne HM1.out hb0); have HVC := hid (HVL.out _ _ hb0); clear hb0 hb1)
  go_loopw [6, 13] (fun v u wr => ∃ (i c : Nat) (q : Option Addr) (xs : List Nat) (D' : DataW Unit) (n' : Nat), i ≤ 1 ∧ u = .int .i64 (i : Int) ∧ v = .slice q i c ∧ Hid (kc (l.take i) = some xs) ∧ wr.ownsRow w1.heap.size 3 1 (.slice q i c) i (xs.map fun (x : Nat) => Value.int .i64 (x : Int)) ∧
      w1.grownBy wr (some b) ∧ wr.ownsMap Try.prog 9 (plainElem Try.prog 3) b n' D' ∧ Good D' ∧ n' + lenL (l.drop i) ≤ n + T) (fun _ u _ => 1 - (intOf u).toNat)
  case atStart => exact ⟨0, 0, none, [], D, n, Nat.zero_le _, rfl, rfl, rfl, World.ownsRow_nil _ _ _ _, World.grownBy.refl _ _, HM1.out, HG.out, by rw [List.drop_zero, HT.out]; exact Nat.le_refl _⟩
  case round =>
    obtain ⟨i, c, q, xs, D', n', hi, rfl, rfl, hkc, hrow, hgr, hmp, hgd, hnn⟩ := hrel
    have HROW := hid hrow
    have HGR := hid hgr
    have HMP := hid hmp
    have HGD := hid hgd
    have hz := hgr.size
    clear hrow hgr hmp hgd
    by_cases hlt : i < 1
    · obtain ⟨t, ht⟩ : ∃ t, l[i]? = some t := ⟨_, List.getElem?_eq_getElem (by rw [HLEN.out]; exact hlt)⟩
      have hcc := HGR.out.cell (HVC.out i t.val (by simp [ht])) HNE.out
      have hdr := lenL_drop l i t ht
      have HC := hid (HOF.out i t ht wr n' D' HMP.out HGD.out (by omega))
      have HDR := hid hdr
      have HTT := hid ht
      obtain ⟨ui, vi, hvi⟩ := t.val_iface
      rw [hvi] at hcc HC
      rw [Nat.zero_add] at hcc
      clear ht hdr hvi
      cases hcnt : t.cnt with
      | none =>
        have HCN := hid hcnt
        rw [show cntV t.cnt = -1 by rw [hcnt]; rfl] at HC
        clear hcnt
        go_wp2_with (go_at_call 50; refine HC.out.mono ?_; rintro e w2 ⟨rfl, hg2, n2, D2, hn2, hown2, hgd2⟩; have HG2 := hid hg2; have HO2 := hid hown2; have HD2 := hid hgd2; clear hg2 hown2 hgd2)
        go_ret2
        have h3 := HDR.out
        exact ⟨((grown_any HB1.out _).trans HGR.out).trans HG2.out, ⟨n2, D2, by omega, HO2.out, HD2.out⟩, .inl ⟨kc_none l i t HTT.out HCN.out, rfl⟩⟩
      | some m =>
        have HCN := hid hcnt
        have hm := cnt_range t m hcnt
        rw [show cntV t.cnt = (m : Int) by rw [hcnt]; rfl] at HC
        obtain ⟨i0, hi0, hz0, hz1', hz2⟩ := info_parts Try.infoInt
        clear hcnt
        go_wp2_with (first | (at_builtin; refine wpList_append_at _ rfl (.tmp 22) (.tmp 24) 44 rfl w1.heap.size 3 i0 (.int .i64 0) 1 8 Try.underlying44 hi0 hz0 hz1' hz2 rfl (by decide) (.slice q i c) i _ rfl ((HROW.out.kept HG2.out (Or.inr (fun e => by have := (HROW.out.lt b e).1; omega))).alloc _) ⟨w2.heap.size, 0, none⟩ 1 1 [.int .i64 (m : Int)] rfl rfl (cells_new1 _ _ _ _ rfl) (by intro u hu; simp at hu; subst hu; rfl) (by decide) (by unfold maxLen; omega) (by omega) (by simp; omega) ?_; intro v' w3 hown3 hg3 hw3 hv3; obtain ⟨g3, kc3, rfl⟩ := hv3; have HG3 := hid hg3; have HR3 := hid hown3; clear hg3 hown3 hw3) | (go_at_call 50; refine HC.out.mono ?_; rintro e w2 ⟨rfl, hg2, n2, D2, hn2, hown2, hgd2⟩; have hzz := hg2.size; have HG2 := hid hg2; have HO2 := hid hown2; have HD2 := hid hgd2; clear hg2 hown2 hgd2))
        go_roundw
        case rel =>
          have h3 := HDR.out
          have hlo := HROW.out.lt
          refine ⟨i + 1, kc3, some ⟨g3, 0, none⟩, xs ++ [m], D2, n2, by omega, by go_num, rfl, kc_snoc l i t xs m HTT.out hkc.out HCN.out, ?_, ?_, ?_, HD2.out, by omega⟩
          · rw [List.map_append]; exact HR3.out
          · exact ((HGR.out.trans HG2.out).trans (World.grownBy_alloc _ _ _)).andThen HG3.out (fun j e => .inl (hlo j e).1)
          · exact (HO2.out.alloc _).kept HG3.out (fun e => by have := (hlo b e.symm).1; omega)
        case measure => simp [intOf]; omega
    · have hin : i = 1 := by omega
      have HI := hid hin
      clear hin
      go_wp2_with fail
      go_ret2
      have hk2 := hkc.out
      have hr2 := HROW.out
      rw [HI.out, List.take_of_length_le (Nat.le_of_eq HLEN.out)] at hk2
      refine ⟨(grown_any HB1.out _).trans HGR.out, ⟨n', D', by omega, HMP.out, HGD.out⟩, .inr ⟨xs, q, c, hk2, ?_, vals0_any hr2⟩⟩
      rw [HLEN.out, ← HI.out]; rfl

set_option maxRecDepth 100000 in
set_option maxHeartbeats 2000000 in
theorem ofParts_ret (x : Ty) (w : World) (b n : Nat) (D : DataW Unit) (hown : w.ownsMap Try.prog 9 (plainElem Try.prog 3) b n D) (hg : Good D) (hn : n + lenL [x] ≤ 1000000)
    (hof : ∀ (i : Nat) (t : Ty), ([x] : List Ty)[i]? = some t → ∀ W n D, W.ownsMap Try.prog 9 (plainElem Try.prog 3) b n D → Good D → n + t.write.length ≤ 1000000 → Calls Try.prog 50 #[.map (some b), t.val] W (CPost b n t.write.length (cntV t.cnt) W)) :
    Calls Try.prog 77 #[.map (some b), (Ty.ret x).val] w (PartsPost [x] b n (lenL [x]) w) := by
  have mk := m_kids_ret x.val
  have HOF := hid hof
  have HO := hid hown
  have HG := hid hg
  have hbl := hown.lt
  obtain ⟨l, hl⟩ : ∃ l, l = ([x] : List Ty) := ⟨_, rfl⟩
  have HK := hid (fun W => kids_ret x W)
  rw [← hl] at hn HOF ⊢
  have HVL := hid (show ∀ (W : World) g, W.heap[g]? = some (.cells #[x.val] 50 (0, 0)) → ∀ j v, (l.map Ty.val)[j]? = some v → W.cell? ⟨g, 0 + j, none⟩ = some v from fun W g h j v hj => by
    rw [hl] at hj
    obtain ⟨b', o', hp, hc⟩ := vals_one h j v hj
    simp at hp; obtain ⟨rfl, rfl⟩ := hp; exact hc)
  have HLEN := hid (show l.length = 1 by rw [hl]; rfl)
  obtain ⟨T, hT⟩ : ∃ T, lenL l = T := ⟨_, rfl⟩
  rw [hT] at hn ⊢
  have HT := hid hT
  simp only [Ty.val]
  clear hof hown hg hl hT
  go_enter Try.func77, Try.ntmps77
  go_wp2_with (go_at_call 142; refine (HK.out _).mono ?_; rintro e w1 ⟨bk, rfl, hb0, hb1⟩; have HB1 := hid hb1; have hz1 := hb1.size; have HM1 := hid (HO.out.kept (row := none) (grown_any hb1 _) (by simp)); have HNE := hid (map_ne HM1.out hb0); have HVC := hid (HVL.out _ _ hb0); clear hb0 hb1)
  go_loopw [6, 13] (fun v u wr => ∃ (i c : Nat) (q : Option Addr) (xs : List Nat) (D' : DataW Unit) (n' : Nat), i ≤ 1 ∧ u = .int .i64 (i : Int) ∧ v = .slice q i c ∧ Hid (kc (l.take i) = some xs) ∧ wr.ownsRow w1.heap.size 3 1 (.slice q i c) i (xs.map fun (x : Nat) => Value.int .i64 (x : Int)) ∧
      w1.grownBy wr (some b) ∧ wr.ownsMap Try.prog 9 (plainElem Try.prog 3) b n' D' ∧ Good D' ∧ n' + lenL (l.drop i) ≤ n + T) (fun _ u _ => 1 - (intOf u).toNat)
  case atStart => exact ⟨0, 0, none, [], D, n, Nat.zero_le _, rfl, rfl, rfl, World.ownsRow_nil _ _ _ _, World.grownBy.refl _ _, HM1.out, HG.out, by rw [List.drop_zero, HT.out]; exact Nat.le_refl _⟩
  case round =>
    obtain ⟨i, c, q, xs, D', n', hi, rfl, rfl, hkc, hrow, hgr, hmp, hgd, hnn⟩ := hrel
    have HROW := hid hrow
    have HGR := hid hgr
    have HMP := hid hmp
    have HGD := hid hgd
    have hz := hgr.size
    clear hrow hgr hmp hgd
    by_cases hlt : i < 1
    · obtain ⟨t, ht⟩ : ∃ t, l[i]? = some t := ⟨_, List.getElem?_eq_getElem (by rw [HLEN.out]; exact hlt)⟩
      have hcc := HGR.out.cell (HVC.out i t.val (by simp [ht])) HNE.out
      have hdr := lenL_drop l i t ht
      have HC := hid (HOF.out i t ht wr n' D' HMP.out HGD.out (by omega))
      have HDR := hid hdr
      have HTT := hid ht
      obtain ⟨ui, vi, hvi⟩ := t.val_iface
      rw [hvi] at hcc HC
      rw [Nat.zero_add] at hcc
      clear ht hdr hvi
      cases hcnt : t.cnt with
      | none =>
        have HCN := hid hcnt
        rw [show cntV t.cnt = -1 by rw [hcnt]; rfl] at HC
        clear hcnt
        go_wp2_with (go_at_call 50; refine HC.out.mono ?_; rintro e w2 ⟨rfl, hg2, n2, D2, hn2, hown2, hgd2⟩; have HG2 := hid hg2; have HO2 := hid hown2; have HD2 := hid hgd2; clear hg2 hown2 hgd2)
        go_ret2
        have h3 := HDR.out
        exact ⟨((grown_any HB1.out _).trans HGR.out).trans HG2.out, ⟨n2, D2, by omega, HO2.out, HD2.out⟩, .inl ⟨kc_none l i t HTT.out HCN.out, rfl⟩⟩
      | some m =>
        have HCN := hid hcnt
        have hm := cnt_range t m hcnt
        rw [show cntV t.cnt = (m : Int) by rw [hcnt]; rfl] at HC
        obtain ⟨i0, hi0, hz0, hz1', hz2⟩ := info_parts Try.infoInt
        clear hcnt
        go_wp2_with (first | (at_builtin; refine wpList_append_at _ rfl (.tmp 22) (.tmp 24) 44 rfl w1.heap.size 3 i0 (.int .i64 0) 1 8 Try.underlying44 hi0 hz0 hz1' hz2 rfl (by decide) (.slice q i c) i _ rfl ((HROW.out.kept HG2.out (Or.inr (fun e => by have := (HROW.out.lt b e).1; omega))).alloc _) ⟨w2.heap.size, 0, none⟩ 1 1 [.int .i64 (m : Int)] rfl rfl (cells_new1 _ _ _ _ rfl) (by intro u hu; simp at hu; subst hu; rfl) (by decide) (by unfold maxLen; omega) (by omega) (by simp; omega) ?_; intro v' w3 hown3 hg3 hw3 hv3; obtain ⟨g3, kc3, rfl⟩ := hv3; have HG3 := hid hg3; have HR3 := hid hown3; clear hg3 hown3 hw3) | (go_at_call 50; refine HC.out.mono ?_; rintro e w2 ⟨rfl, hg2, n2, D2, hn2, hown2, hgd2⟩; have hzz := hg2.size; have HG2 := hid hg2; have HO2 := hid hown2; have HD2 := hid hgd2; clear hg2 hown2 hgd2))
        go_roundw
        case rel =>
          have h3 := HDR.out
          have hlo := HROW.out.lt
          refine ⟨i + 1, kc3, some ⟨g3, 0, none⟩, xs ++ [m], D2, n2, by omega, by go_num, rfl, kc_snoc l i t xs m HTT.out hkc.out HCN.out, ?_, ?_, ?_, HD2.out, by omega⟩
          · rw [List.map_append]; exact HR3.out
          · exact ((HGR.out.trans HG2.out).trans (World.grownBy_alloc _ _ _)).andThen HG3.out (fun j e => .inl (hlo j e).1)
          · exact (HO2.out.alloc _).kept HG3.out (fun e => by have := (hlo b e.symm).1; omega)
        case measure => simp [intOf]; omega
    · have hin : i = 1 := by omega
      have HI := hid hin
      clear hin
      go_wp2_with fail
      go_ret2
      have hk2 := hkc.out
      have hr2 := HROW.out
      rw [HI.out, List.take_of_length_le (Nat.le_of_eq HLEN.out)] at hk2
      refine ⟨(grown_any HB1.out _).trans HGR.out, ⟨n', D', by omega, HMP.out, HGD.out⟩, .inr ⟨xs, q, c, hk2, ?_, vals0_any hr2⟩⟩
      rw [HLEN.out, ← HI.out]; rfl

set_option maxRecDepth 100000 in
set_option maxHeartbeats 2000000 in
theorem ofParts_fn (x y : Ty) (w : World) (b n : Nat) (D : DataW Unit) (hown : w.ownsMap Try.prog 9 (plainElem Try.prog 3) b n D) (hg : Good D) (hn : n + lenL [x, y] ≤ 1000000)
    (hof : ∀ (i : Nat) (t : Ty), ([x, y] : List Ty)[i]? = some t → ∀ W n D, W.ownsMap Try.prog 9 (plainElem Try.prog 3) b n D → Good D → n + t.write.length ≤ 1000000 → Calls Try.prog 50 #[.map (some b), t.val] W (CPost b n t.write.length (cntV t.cnt) W)) :
    Calls Try.prog 77 #[.map (some b), (Ty.fn x y).val] w (PartsPost [x, y] b n (lenL [x, y]) w) := by
  have mk := m_kids_fn x.val y.val
  have HOF := hid hof
  have HO := hid hown
  have HG := hid hg
  have hbl := hown.lt
  obtain ⟨l, hl⟩ : ∃ l, l = ([x, y] : List Ty) := ⟨_, rfl⟩
  have HK := hid (fun W => kids_fn x y W)
  rw [← hl] at hn HOF ⊢
  have HVL := hid (show ∀ (W : World) g, W.heap[g]? = some (.cells #[x.val, y.val] 50 (0, 0)) → ∀ j v, (l.map Ty.val)[j]? = some v → W.cell? ⟨g, 0 + j, none⟩ = some v from fun W g h j v hj => by
    rw [hl] at hj
    obtain ⟨b', o', hp, hc⟩ := vals_two h j v hj
    simp at hp; obtain ⟨rfl, rfl⟩ := hp; exact hc)
  have HLEN := hid (show l.length = 2 by rw [hl]; rfl)
  obtain ⟨T, hT⟩ : ∃ T, lenL l = T := ⟨_, rfl⟩
  rw [hT] at hn ⊢
  have HT := hid hT
  simp only [Ty.val]
  clear hof hown hg hl hT
  go_enter Try.func77, Try.ntmps77
  go_wp2_with (go_at_call 146; refine (HK.out _).mono ?_; rintro e w1 ⟨bk, rfl, hb0, hb1⟩; have HB1 := hid hb1; have hz1 := hb1.size; have HM1 := hid (HO.out.kept (row := none) (grown_any hb1 _) (by simp)); have HNE := hid (map_ne HM1.out hb0); have HVC := hid (HVL.out _ _ hb0); clear hb0 hb1)
  go_loopw [6, 13] (fun v u wr => ∃ (i c : Nat) (q : Option Addr) (xs : List Nat) (D' : DataW Unit) (n' : Nat), i ≤ 2 ∧ u = .int .i64 (i : Int) ∧ v = .slice q i c ∧ Hid (kc (l.take i) = some xs) ∧ wr.ownsRow w1.heap.size 3 1 (.slice q i c) i (xs.map fun (x : Nat) => Value.int .i64 (x : Int)) ∧
      w1.grownBy wr (some b) ∧ wr.ownsMap Try.prog 9 (plainElem Try.prog 3) b n' D' ∧ Good D' ∧ n' + lenL (l.drop i) ≤ n + T) (fun _ u _ => 2 - (intOf u).toNat)
  case atStart => exact ⟨0, 0, none, [], D, n, Nat.zero_le _, rfl, rfl, rfl, World.ownsRow_nil _ _ _ _, World.grownBy.refl _ _, HM1.out, HG.out, by rw [List.drop_zero, HT.out]; exact Nat.le_refl _⟩
  case round =>
    obtain ⟨i, c, q, xs, D', n', hi, rfl, rfl, hkc, hrow, hgr, hmp, hgd, hnn⟩ := hrel
    have HROW := hid hrow
    have HGR := hid hgr
    have HMP := hid hmp
    have HGD := hid hgd
    have hz := hgr.size
    clear hrow hgr hmp hgd
    by_cases hlt : i < 2
    · obtain ⟨t, ht⟩ : ∃ t, l[i]? = some t := ⟨_, List.getElem?_eq_getElem (by rw [HLEN.out]; exact hlt)⟩
      have hcc := HGR.out.cell (HVC.out i t.val (by simp [ht])) HNE.out
      have hdr := lenL_drop l i t ht
      have HC := hid (HOF.out i t ht wr n' D' HMP.out HGD.out (by omega))
      have HDR := hid hdr
      have HTT := hid ht
      obtain ⟨ui, vi, hvi⟩ := t.val_iface
      rw [hvi] at hcc HC
      rw [Nat.zero_add] at hcc
      clear ht hdr hvi
      cases hcnt : t.cnt with
      | none =>
        have HCN := hid hcnt
        rw [show cntV t.cnt = -1 by rw [hcnt]; rfl] at HC
        clear hcnt
        go_wp2_with (go_at_call 50; refine HC.out.mono ?_; rintro e w2 ⟨rfl, hg2, n2, D2, hn2, hown2, hgd2⟩; have HG2 := hid hg2; have HO2 := hid hown2; have HD2 := hid hgd2; clear hg2 hown2 hgd2)
        go_ret2
        have h3 := HDR.out
        exact ⟨((grown_any HB1.out _).trans HGR.out).trans HG2.out, ⟨n2, D2, by omega, HO2.out, HD2.out⟩, .inl ⟨kc_none l i t HTT.out HCN.out, rfl⟩⟩
      | some m =>
        have HCN := hid hcnt
        have hm := cnt_range t m hcnt
        rw [show cntV t.cnt = (m : Int) by rw [hcnt]; rfl] at HC
        obtain ⟨i0, hi0, hz0, hz1', hz2⟩ := info_parts Try.infoInt
        clear hcnt
        go_wp2_with (first | (at_builtin; refine wpList_append_at _ rfl (.tmp 22) (.tmp 24) 44 rfl w1.heap.size 3 i0 (.int .i64 0) 1 8 Try.underlying44 hi0 hz0 hz1' hz2 rfl (by decide) (.slice q i c) i _ rfl ((HROW.out.kept HG2.out (Or.inr (fun e => by have := (HROW.out.lt b e).1; omega))).alloc _) ⟨w2.heap.size, 0, none⟩ 1 1 [.int .i64 (m : Int)] rfl rfl (cells_new1 _ _ _ _ rfl) (by intro u hu; simp at hu; subst hu; rfl) (by decide) (by unfold maxLen; omega) (by omega) (by simp; omega) ?_; intro v' w3 hown3 hg3 hw3 hv3; obtain ⟨g3, kc3, rfl⟩ := hv3; have HG3 := hid hg3; have HR3 := hid hown3; clear hg3 hown3 hw3) | (go_at_call 50; refine HC.out.mono ?_; rintro e w2 ⟨rfl, hg2, n2, D2, hn2, hown2, hgd2⟩; have hzz := hg2.size; have HG2 := hid hg2; have HO2 := hid hown2; have HD2 := hid hgd2; clear hg2 hown2 hgd2))
        go_roundw
        case rel =>
          have h3 := HDR.out
          have hlo := HROW.out.lt
          refine ⟨i + 1, kc3, some ⟨g3, 0, none⟩, xs ++ [m], D2, n2, by omega, by go_num, rfl, kc_snoc l i t xs m HTT.out hkc.out HCN.out, ?_, ?_, ?_, HD2.out, by omega⟩
          · rw [List.map_append]; exact HR3.out
          · exact ((HGR.out.trans HG2.out).trans (World.grownBy_alloc _ _ _)).andThen HG3.out (fun j e => .inl (hlo j e).1)
          · exact (HO2.out.alloc _).kept HG3.out (fun e => by have := (hlo b e.symm).1; omega)
        case measure => simp [intOf]; omega
    · have hin : i = 2 := by omega
      have HI := hid hin
      clear hin
      go_wp2_with fail
      go_ret2
      have hk2 := hkc.out
      have hr2 := HROW.out
      rw [HI.out, List.take_of_length_le (Nat.le_of_eq HLEN.out)] at hk2
      refine ⟨(grown_any HB1.out _).trans HGR.out, ⟨n', D', by omega, HMP.out, HGD.out⟩, .inr ⟨xs, q, c, hk2, ?_, vals0_any hr2⟩⟩
      rw [HLEN.out, ← HI.out]; rfl

set_option maxRecDepth 100000 in
set_option maxHeartbeats 2000000 in
theorem ofParts_choice (x y : Ty) (w : World) (b n : Nat) (D : DataW Unit) (hown : w.ownsMap Try.prog 9 (plainElem Try.prog 3) b n D) (hg : Good D) (hn : n + lenL [x, y] ≤ 1000000)
    (hof : ∀ (i : Nat) (t : Ty), ([x, y] : List Ty)[i]? = some t → ∀ W n D, W.ownsMap Try.prog 9 (plainElem Try.prog 3) b n D → Good D → n + t.write.length ≤ 1000000 → Calls Try.prog 50 #[.map (some b), t.val] W (CPost b n t.write.length (cntV t.cnt) W)) :
    Calls Try.prog 77 #[.map (some b), (Ty.choice x y).val] w (PartsPost [x, y] b n (lenL [x, y]) w) := by
  have mk := m_kids_choice x.val y.val
  have HOF := hid hof
  have HO := hid hown
  have HG := hid hg
  have hbl := hown.lt
  obtain ⟨l, hl⟩ : ∃ l, l = ([x, y] : List Ty) := ⟨_, rfl⟩
  have HK := hid (fun W => kids_choice x y W)
  rw [← hl] at hn HOF ⊢
  have HVL := hid (show ∀ (W : World) g, W.heap[g]? = some (.cells #[x.val, y.val] 50 (0, 0)) → ∀ j v, (l.map Ty.val)[j]? = some v → W.cell? ⟨g, 0 + j, none⟩ = some v from fun W g h j v hj => by
    rw [hl] at hj
    obtain ⟨b', o', hp, hc⟩ := vals_two h j v hj
    simp at hp; obtain ⟨rfl, rfl⟩ := hp; exact hc)
  have HLEN := hid (show l.length = 2 by rw [hl]; rfl)
  obtain ⟨T, hT⟩ : ∃ T, lenL l = T := ⟨_, rfl⟩
  rw [hT] at hn ⊢
  have HT := hid hT
  simp only [Ty.val]
  clear hof hown hg hl hT
  go_enter Try.func77, Try.ntmps77
  go_wp2_with (go_at_call 150; refine (HK.out _).mono ?_; rintro e w1 ⟨bk, rfl, hb0, hb1⟩; have HB1 := hid hb1; have hz1 := hb1.size; have HM1 := hid (HO.out.kept (row := none) (grown_any hb1 _) (by simp)); have HNE := hid (map_ne HM1.out hb0); have HVC := hid (HVL.out _ _ hb0); clear hb0 hb1)
  go_loopw [6, 13] (fun v u wr => ∃ (i c : Nat) (q : Option Addr) (xs : List Nat) (D' : DataW Unit) (n' : Nat), i ≤ 2 ∧ u = .int .i64 (i : Int) ∧ v = .slice q i c ∧ Hid (kc (l.take i) = some xs) ∧ wr.ownsRow w1.heap.size 3 1 (.slice q i c) i (xs.map fun (x : Nat) => Value.int .i64 (x : Int)) ∧
      w1.grownBy wr (some b) ∧ wr.ownsMap Try.prog 9 (plainElem Try.prog 3) b n' D' ∧ Good D' ∧ n' + lenL (l.drop i) ≤ n + T) (fun _ u _ => 2 - (intOf u).toNat)
  case atStart => exact ⟨0, 0, none, [], D, n, Nat.zero_le _, rfl, rfl, rfl, World.ownsRow_nil _ _ _ _, World.grownBy.refl _ _, HM1.out, HG.out, by rw [List.drop_zero, HT.out]; exact Nat.le_refl _⟩
  case round =>
    obtain ⟨i, c, q, xs, D', n', hi, rfl, rfl, hkc, hrow, hgr, hmp, hgd, hnn⟩ := hrel
    have HROW := hid hrow
    have HGR := hid hgr
    have HMP := hid hmp
    have HGD := hid hgd
    have hz := hgr.size
    clear hrow hgr hmp hgd
    by_cases hlt : i < 2
    · obtain ⟨t, ht⟩ : ∃ t, l[i]? = some t := ⟨_, List.getElem?_eq_getElem (by rw [HLEN.out]; exact hlt)⟩
      have hcc := HGR.out.cell (HVC.out i t.val (by simp [ht])) HNE.out
      have hdr := lenL_drop l i t ht
      have HC := hid (HOF.out i t ht wr n' D' HMP.out HGD.out (by omega))
      have HDR := hid hdr
      have HTT := hid ht
      obtain ⟨ui, vi, hvi⟩ := t.val_iface
      rw [hvi] at hcc HC
      rw [Nat.zero_add] at hcc
      clear ht hdr hvi
      cases hcnt : t.cnt with
      | none =>
        have HCN := hid hcnt
        rw [show cntV t.cnt = -1 by rw [hcnt]; rfl] at HC
        clear hcnt
        go_wp2_with (go_at_call 50; refine HC.out.mono ?_; rintro e w2 ⟨rfl, hg2, n2, D2, hn2, hown2, hgd2⟩; have HG2 := hid hg2; have HO2 := hid hown2; have HD2 := hid hgd2; clear hg2 hown2 hgd2)
        go_ret2
        have h3 := HDR.out
        exact ⟨((grown_any HB1.out _).trans HGR.out).trans HG2.out, ⟨n2, D2, by omega, HO2.out, HD2.out⟩, .inl ⟨kc_none l i t HTT.out HCN.out, rfl⟩⟩
      | some m =>
        have HCN := hid hcnt
        have hm := cnt_range t m hcnt
        rw [show cntV t.cnt = (m : Int) by rw [hcnt]; rfl] at HC
        obtain ⟨i0, hi0, hz0, hz1', hz2⟩ := info_parts Try.infoInt
        clear hcnt
        go_wp2_with (first | (at_builtin; refine wpList_append_at _ rfl (.tmp 22) (.tmp 24) 44 rfl w1.heap.size 3 i0 (.int .i64 0) 1 8 Try.underlying44 hi0 hz0 hz1' hz2 rfl (by decide) (.slice q i c) i _ rfl ((HROW.out.kept HG2.out (Or.inr (fun e => by have := (HROW.out.lt b e).1; omega))).alloc _) ⟨w2.heap.size, 0, none⟩ 1 1 [.int .i64 (m : Int)] rfl rfl (cells_new1 _ _ _ _ rfl) (by intro u hu; simp at hu; subst hu; rfl) (by decide) (by unfold maxLen; omega) (by omega) (by simp; omega) ?_; intro v' w3 hown3 hg3 hw3 hv3; obtain ⟨g3, kc3, rfl⟩ := hv3; have HG3 := hid hg3; have HR3 := hid hown3; clear hg3 hown3 hw3) | (go_at_call 50; refine HC.out.mono ?_; rintro e w2 ⟨rfl, hg2, n2, D2, hn2, hown2, hgd2⟩; have hzz := hg2.size; have HG2 := hid hg2; have HO2 := hid hown2; have HD2 := hid hgd2; clear hg2 hown2 hgd2))
        go_roundw
        case rel =>
          have h3 := HDR.out
          have hlo := HROW.out.lt
          refine ⟨i + 1, kc3, some ⟨g3, 0, none⟩, xs ++ [m], D2, n2, by omega, by go_num, rfl, kc_snoc l i t xs m HTT.out hkc.out HCN.out, ?_, ?_, ?_, HD2.out, by omega⟩
          · rw [List.map_append]; exact HR3.out
          · exact ((HGR.out.trans HG2.out).trans (World.grownBy_alloc _ _ _)).andThen HG3.out (fun j e => .inl (hlo j e).1)
          · exact (HO2.out.alloc _).kept HG3.out (fun e => by have := (hlo b e.symm).1; omega)
        case measure => simp [intOf]; omega
    · have hin : i = 2 := by omega
      have HI := hid hin
      clear hin
      go_wp2_with fail
      go_ret2
      have hk2 := hkc.out
      have hr2 := HROW.out
      rw [HI.out, List.take_of_length_le (Nat.le_of_eq HLEN.out)] at hk2
      refine ⟨(grown_any HB1.out _).trans HGR.out, ⟨n', D', by omega, HMP.out, HGD.out⟩, .inr ⟨xs, q, c, hk2, ?_, vals0_any hr2⟩⟩
      rw [HLEN.out, ← HI.out]; rfl

set_option maxRecDepth 100000 in
theorem ofParts_bit (w : World) (b n : Nat) (D : DataW Unit) (hown : w.ownsMap Try.prog 9 (plainElem Try.prog 3) b n D) (hg : Good D) :
    Calls Try.prog 77 #[.map (some b), Ty.bit.val] w (PartsPost [] b n 0 w) := by
  have mk := m_kids_bit
  have HO := hid hown
  have HG := hid hg
  clear hown hg
  simp only [Ty.val]
  go_enter Try.func77, Try.ntmps77
  go_wp2_with (go_at_call 129; refine (kids_bit _).mono ?_; rintro e w1 ⟨rfl, hb1⟩)
  refine wp_loop_rounds 1 ?_
  rw [rounds_succ]
  go_wp2_with fail
  go_ret2
  exact ⟨grown_any hb1 _, ⟨n, D, Nat.le_refl _, HO.out.kept (row := none) (grown_any hb1 _) (by simp), HG.out⟩, .inr ⟨[], none, 0, rfl, rfl, fun i v h => by simp at h⟩⟩
theorem fromOk_cases {t : Ty} {z : Int} (h : fromOk t z) : (z ≤ 5000 ∧ cntV t.cnt = z) ∨ (5000 < z ∧ cntV t.cnt = -1) := by
  by_cases hz : z ≤ 5000
  · exact .inl ⟨hz, h.2.1 hz⟩
  · exact .inr ⟨by omega, by rw [h.2.2 (by omega)]; rfl⟩
theorem cells_of_vals {w : World} {q : Option Addr} {xs : List Value} {x : Value} (h : Vals w q xs) (h0 : xs[0]? = some x) : ∃ g, ∃ o, q = some ⟨g, o, none⟩ ∧ w.cell? ⟨g, o, none⟩ = some x := by
  obtain ⟨b, o, hq, hc⟩ := h 0 x h0
  exact ⟨b, o, hq, by simpa using hc⟩

set_option maxRecDepth 100000 in
set_option maxHeartbeats 2000000 in
theorem compute_bit (w : World) (b n K : Nat)
    (hp : Calls Try.prog 77 #[.map (some b), Ty.bit.val] w (PartsPost [] b n K w)) :
    Calls Try.prog 75 #[.map (some b), Ty.bit.val] w (CPost b n K (cntV Ty.bit.cnt) w) := by
  have mk := m_countFrom_bit 
  have HP := hid hp
  clear hp
  simp only [Ty.val] at HP ⊢
  have HK := hid (show kc [] = some [] from rfl)
  go_enter Try.func75, Try.ntmps75
  go_wp2_with (first | (go_at_call 77; refine HP.out.mono ?_; rintro e w1 hp; obtain ⟨⟨q, c, rfl, hv⟩, hg1, n1, D1, hn1, hown1, hgd1⟩ := hp.yes HK.out; have HG1 := hid hg1; have HO1 := hid hown1; have HD1 := hid hgd1; clear hp hg1 hown1 hgd1; clear hv) | (go_at_call 127; refine (countFrom_bit _ _ _ _).mono ?_; rintro e w2 ⟨⟨z, rfl, hz, hzb⟩, hb2⟩; have HZ := hid hz; have hz0 := hz.1; clear hz))
  all_goals
    go_ret
    refine ⟨ret_int ?_, HG1.out.trans (grown_any hb2 _), n1, D1, hn1, HO1.out.kept (row := none) (grown_any hb2 _) (by simp), HD1.out⟩
    rcases fromOk_cases HZ.out with ⟨h1, h2⟩ | ⟨h1, h2⟩ <;> omega

set_option maxRecDepth 100000 in
set_option maxHeartbeats 2000000 in
theorem compute_pair (x y : Ty) (w : World) (b n K : Nat)
    (hp : Calls Try.prog 77 #[.map (some b), (Ty.pair x y).val] w (PartsPost [x, y] b n K w)) :
    Calls Try.prog 75 #[.map (some b), (Ty.pair x y).val] w (CPost b n K (cntV (Ty.pair x y).cnt) w) := by
  have mk := m_countFrom_pair x.val y.val
  have HP := hid hp
  clear hp
  simp only [Ty.val] at HP ⊢
  cases hx : x.cnt with
  | none =>
    have HK := hid (show kc [x, y] = none by simp [kc, hx])
    have HV := hid (show cntV (Ty.pair x y).cnt = -1 by simp [Ty.cnt, hx, cntV])
    clear hx mk
    go_enter Try.func75, Try.ntmps75
    go_wp2_with (go_at_call 77; refine HP.out.mono ?_; rintro e w1 hp; obtain ⟨rfl, hg1, n1, D1, hn1, hown1, hgd1⟩ := hp.no HK.out; have HG1 := hid hg1; have HO1 := hid hown1; have HD1 := hid hgd1; clear hp hg1 hown1 hgd1)
    go_ret
    exact ⟨ret_int HV.out.symm, HG1.out, n1, D1, hn1, HO1.out, HD1.out⟩
  | some xn =>
   cases hy : y.cnt with
   | none =>
    have HK := hid (show kc [x, y] = none by simp [kc, hx, hy])
    have HV := hid (show cntV (Ty.pair x y).cnt = -1 by simp [Ty.cnt, hx, hy, cntV])
    clear hx hy mk
    go_enter Try.func75, Try.ntmps75
    go_wp2_with (go_at_call 77; refine HP.out.mono ?_; rintro e w1 hp; obtain ⟨rfl, hg1, n1, D1, hn1, hown1, hgd1⟩ := hp.no HK.out; have HG1 := hid hg1; have HO1 := hid hown1; have HD1 := hid hgd1; clear hp hg1 hown1 hgd1)
    go_ret
    exact ⟨ret_int HV.out.symm, HG1.out, n1, D1, hn1, HO1.out, HD1.out⟩
   | some yn =>
    have HK := hid (show kc [x, y] = some [xn, yn] by simp [kc, hx, hy])
    have HX := hid hx
    have HY := hid hy
    clear hx hy
    go_enter Try.func75, Try.ntmps75
    go_wp2_with (first | (go_at_call 77; refine HP.out.mono ?_; rintro e w1 hp; obtain ⟨⟨q, c, rfl, hv⟩, hg1, n1, D1, hn1, hown1, hgd1⟩ := hp.yes HK.out; have HG1 := hid hg1; have HO1 := hid hown1; have HD1 := hid hgd1; clear hp hg1 hown1 hgd1; obtain ⟨g, rfl, c0⟩ := hv 0 _ rfl; obtain ⟨g2, hq2, c1⟩ := hv 1 _ rfl; have hqq : g2 = g := (by simp at hq2; exact hq2.symm); rw [hqq] at c1; have C0 := hid c0; have C1 := hid c1; clear c0 c1 hq2 hqq; clear hv) | (go_at_call 132; refine (countFrom_pair x y xn yn g _ _ HX.out HY.out C0.out C1.out).mono ?_; rintro e w2 ⟨⟨z, rfl, hz, hzb⟩, hb2⟩; have HZ := hid hz; have hz0 := hz.1; clear hz))
    all_goals
      go_ret
      refine ⟨ret_int ?_, HG1.out.trans (grown_any hb2 _), n1, D1, hn1, HO1.out.kept (row := none) (grown_any hb2 _) (by simp), HD1.out⟩
      rcases fromOk_cases HZ.out with ⟨h1, h2⟩ | ⟨h1, h2⟩ <;> omega

set_option maxRecDepth 100000 in
set_option maxHeartbeats 2000000 in
theorem compute_thunk (x : Ty) (w : World) (b n K : Nat)
    (hp : Calls Try.prog 77 #[.map (some b), (Ty.thunk x).val] w (PartsPost [x] b n K w)) :
    Calls Try.prog 75 #[.map (some b), (Ty.thunk x).val] w (CPost b n K (cntV (Ty.thunk x).cnt) w) := by
  have mk := m_countFrom_thunk x.val
  have HP := hid hp
  clear hp
  simp only [Ty.val] at HP ⊢
  cases hx : x.cnt with
  | none =>
    have HK := hid (show kc [x] = none by simp [kc, hx])
    have HV := hid (show cntV (Ty.thunk x).cnt = -1 by simp [Ty.cnt, hx, cntV])
    clear hx mk
    go_enter Try.func75, Try.ntmps75
    go_wp2_with (go_at_call 77; refine HP.out.mono ?_; rintro e w1 hp; obtain ⟨rfl, hg1, n1, D1, hn1, hown1, hgd1⟩ := hp.no HK.out; have HG1 := hid hg1; have HO1 := hid hown1; have HD1 := hid hgd1; clear hp hg1 hown1 hgd1)
    go_ret
    exact ⟨ret_int HV.out.symm, HG1.out, n1, D1, hn1, HO1.out, HD1.out⟩
  | some xn =>
    have HK := hid (show kc [x] = some [xn] by simp [kc, hx])
    have HX := hid hx
    clear hx
    go_enter Try.func75, Try.ntmps75
    go_wp2_with (first | (go_at_call 77; refine HP.out.mono ?_; rintro e w1 hp; obtain ⟨⟨q, c, rfl, hv⟩, hg1, n1, D1, hn1, hown1, hgd1⟩ := hp.yes HK.out; have HG1 := hid hg1; have HO1 := hid hown1; have HD1 := hid hgd1; clear hp hg1 hown1 hgd1; obtain ⟨g, rfl, c0⟩ := hv 0 _ rfl; have C0 := hid c0; clear c0; clear hv) | (go_at_call 136; refine (countFrom_thunk x xn g _ _ HX.out C0.out).mono ?_; rintro e w2 ⟨⟨z, rfl, hz, hzb⟩, hb2⟩; have HZ := hid hz; have hz0 := hz.1; clear hz))
    all_goals
      go_ret
      refine ⟨ret_int ?_, HG1.out.trans (grown_any hb2 _), n1, D1, hn1, HO1.out.kept (row := none) (grown_any hb2 _) (by simp), HD1.out⟩
      rcases fromOk_cases HZ.out with ⟨h1, h2⟩ | ⟨h1, h2⟩ <;> omega

set_option maxRecDepth 100000 in
set_option maxHeartbeats 2000000 in
theorem compute_ret (x : Ty) (w : World) (b n K : Nat)
    (hp : Calls Try.prog 77 #[.map (some b), (Ty.ret x).val] w (PartsPost [x] b n K w)) :
    Calls Try.prog 75 #[.map (some b), (Ty.ret x).val] w (CPost b n K (cntV (Ty.ret x).cnt) w) := by
  have mk := m_countFrom_ret x.val
  have HP := hid hp
  clear hp
  simp only [Ty.val] at HP ⊢
  cases hx : x.cnt with
  | none =>
    have HK := hid (show kc [x] = none by simp [kc, hx])
    have HV := hid (show cntV (Ty.ret x).cnt = -1 by simp [Ty.cnt, hx, cntV])
    clear hx mk
    go_enter Try.func75, Try.ntmps75
    go_wp2_with (go_at_call 77; refine HP.out.mono ?_; rintro e w1 hp; obtain ⟨rfl, hg1, n1, D1, hn1, hown1, hgd1⟩ := hp.no HK.out; have HG1 := hid hg1; have HO1 := hid hown1; have HD1 := hid hgd1; clear hp hg1 hown1 hgd1)
    go_ret
    exact ⟨ret_int HV.out.symm, HG1.out, n1, D1, hn1, HO1.out, HD1.out⟩
  | some xn =>
    have HK := hid (show kc [x] = some [xn] by simp [kc, hx])
    have HX := hid hx
    clear hx
    go_enter Try.func75, Try.ntmps75
    go_wp2_with (first | (go_at_call 77; refine HP.out.mono ?_; rintro e w1 hp; obtain ⟨⟨q, c, rfl, hv⟩, hg1, n1, D1, hn1, hown1, hgd1⟩ := hp.yes HK.out; have HG1 := hid hg1; have HO1 := hid hown1; have HD1 := hid hgd1; clear hp hg1 hown1 hgd1; obtain ⟨g, rfl, c0⟩ := hv 0 _ rfl; have C0 := hid c0; clear c0; clear hv) | (go_at_call 140; refine (countFrom_ret x xn g _ _ HX.out C0.out).mono ?_; rintro e w2 ⟨⟨z, rfl, hz, hzb⟩, hb2⟩; have HZ := hid hz; have hz0 := hz.1; clear hz))
    all_goals
      go_ret
      refine ⟨ret_int ?_, HG1.out.trans (grown_any hb2 _), n1, D1, hn1, HO1.out.kept (row := none) (grown_any hb2 _) (by simp), HD1.out⟩
      rcases fromOk_cases HZ.out with ⟨h1, h2⟩ | ⟨h1, h2⟩ <;> omega

set_option maxRecDepth 100000 in
set_option maxHeartbeats 2000000 in
theorem compute_fn (x y : Ty) (w : World) (b n K : Nat)
    (hp : Calls Try.prog 77 #[.map (some b), (Ty.fn x y).val] w (PartsPost [x, y] b n K w)) :
    Calls Try.prog 75 #[.map (some b), (Ty.fn x y).val] w (CPost b n K (cntV (Ty.fn x y).cnt) w) := by
  have mk := m_countFrom_fn x.val y.val
  have HP := hid hp
  clear hp
  simp only [Ty.val] at HP ⊢
  cases hx : x.cnt with
  | none =>
    have HK := hid (show kc [x, y] = none by simp [kc, hx])
    have HV := hid (show cntV (Ty.fn x y).cnt = -1 by simp [Ty.cnt, hx, cntV])
    clear hx mk
    go_enter Try.func75, Try.ntmps75
    go_wp2_with (go_at_call 77; refine HP.out.mono ?_; rintro e w1 hp; obtain ⟨rfl, hg1, n1, D1, hn1, hown1, hgd1⟩ := hp.no HK.out; have HG1 := hid hg1; have HO1 := hid hown1; have HD1 := hid hgd1; clear hp hg1 hown1 hgd1)
    go_ret
    exact ⟨ret_int HV.out.symm, HG1.out, n1, D1, hn1, HO1.out, HD1.out⟩
  | some xn =>
   cases hy : y.cnt with
   | none =>
    have HK := hid (show kc [x, y] = none by simp [kc, hx, hy])
    have HV := hid (show cntV (Ty.fn x y).cnt = -1 by simp [Ty.cnt, hx, hy, cntV])
    clear hx hy mk
    go_enter Try.func75, Try.ntmps75
    go_wp2_with (go_at_call 77; refine HP.out.mono ?_; rintro e w1 hp; obtain ⟨rfl, hg1, n1, D1, hn1, hown1, hgd1⟩ := hp.no HK.out; have HG1 := hid hg1; have HO1 := hid hown1; have HD1 := hid hgd1; clear hp hg1 hown1 hgd1)
    go_ret
    exact ⟨ret_int HV.out.symm, HG1.out, n1, D1, hn1, HO1.out, HD1.out⟩
   | some yn =>
    have HK := hid (show kc [x, y] = some [xn, yn] by simp [kc, hx, hy])
    have HX := hid hx
    have HY := hid hy
    clear hx hy
    go_enter Try.func75, Try.ntmps75
    go_wp2_with (first | (go_at_call 77; refine HP.out.mono ?_; rintro e w1 hp; obtain ⟨⟨q, c, rfl, hv⟩, hg1, n1, D1, hn1, hown1, hgd1⟩ := hp.yes HK.out; have HG1 := hid hg1; have HO1 := hid hown1; have HD1 := hid hgd1; clear hp hg1 hown1 hgd1; obtain ⟨g, rfl, c0⟩ := hv 0 _ rfl; obtain ⟨g2, hq2, c1⟩ := hv 1 _ rfl; have hqq : g2 = g := (by simp at hq2; exact hq2.symm); rw [hqq] at c1; have C0 := hid c0; have C1 := hid c1; clear c0 c1 hq2 hqq; clear hv) | (go_at_call 144; refine (countFrom_fn x y xn yn g _ _ HX.out HY.out C0.out C1.out).mono ?_; rintro e w2 ⟨⟨z, rfl, hz, hzb⟩, hb2⟩; have HZ := hid hz; have hz0 := hz.1; clear hz))
    all_goals
      go_ret
      refine ⟨ret_int ?_, HG1.out.trans (grown_any hb2 _), n1, D1, hn1, HO1.out.kept (row := none) (grown_any hb2 _) (by simp), HD1.out⟩
      rcases fromOk_cases HZ.out with ⟨h1, h2⟩ | ⟨h1, h2⟩ <;> omega

set_option maxRecDepth 100000 in
set_option maxHeartbeats 2000000 in
theorem compute_choice (x y : Ty) (w : World) (b n K : Nat)
    (hp : Calls Try.prog 77 #[.map (some b), (Ty.choice x y).val] w (PartsPost [x, y] b n K w)) :
    Calls Try.prog 75 #[.map (some b), (Ty.choice x y).val] w (CPost b n K (cntV (Ty.choice x y).cnt) w) := by
  have mk := m_countFrom_choice x.val y.val
  have HP := hid hp
  clear hp
  simp only [Ty.val] at HP ⊢
  cases hx : x.cnt with
  | none =>
    have HK := hid (show kc [x, y] = none by simp [kc, hx])
    have HV := hid (show cntV (Ty.choice x y).cnt = -1 by simp [Ty.cnt, hx, cntV])
    clear hx mk
    go_enter Try.func75, Try.ntmps75
    go_wp2_with (go_at_call 77; refine HP.out.mono ?_; rintro e w1 hp; obtain ⟨rfl, hg1, n1, D1, hn1, hown1, hgd1⟩ := hp.no HK.out; have HG1 := hid hg1; have HO1 := hid hown1; have HD1 := hid hgd1; clear hp hg1 hown1 hgd1)
    go_ret
    exact ⟨ret_int HV.out.symm, HG1.out, n1, D1, hn1, HO1.out, HD1.out⟩
  | some xn =>
   cases hy : y.cnt with
   | none =>
    have HK := hid (show kc [x, y] = none by simp [kc, hx, hy])
    have HV := hid (show cntV (Ty.choice x y).cnt = -1 by simp [Ty.cnt, hx, hy, cntV])
    clear hx hy mk
    go_enter Try.func75, Try.ntmps75
    go_wp2_with (go_at_call 77; refine HP.out.mono ?_; rintro e w1 hp; obtain ⟨rfl, hg1, n1, D1, hn1, hown1, hgd1⟩ := hp.no HK.out; have HG1 := hid hg1; have HO1 := hid hown1; have HD1 := hid hgd1; clear hp hg1 hown1 hgd1)
    go_ret
    exact ⟨ret_int HV.out.symm, HG1.out, n1, D1, hn1, HO1.out, HD1.out⟩
   | some yn =>
    have HK := hid (show kc [x, y] = some [xn, yn] by simp [kc, hx, hy])
    have HX := hid hx
    have HY := hid hy
    clear hx hy
    go_enter Try.func75, Try.ntmps75
    go_wp2_with (first | (go_at_call 77; refine HP.out.mono ?_; rintro e w1 hp; obtain ⟨⟨q, c, rfl, hv⟩, hg1, n1, D1, hn1, hown1, hgd1⟩ := hp.yes HK.out; have HG1 := hid hg1; have HO1 := hid hown1; have HD1 := hid hgd1; clear hp hg1 hown1 hgd1; obtain ⟨g, rfl, c0⟩ := hv 0 _ rfl; obtain ⟨g2, hq2, c1⟩ := hv 1 _ rfl; have hqq : g2 = g := (by simp at hq2; exact hq2.symm); rw [hqq] at c1; have C0 := hid c0; have C1 := hid c1; clear c0 c1 hq2 hqq; clear hv) | (go_at_call 148; refine (countFrom_choice x y xn yn g _ _ HX.out HY.out C0.out C1.out).mono ?_; rintro e w2 ⟨⟨z, rfl, hz, hzb⟩, hb2⟩; have HZ := hid hz; have hz0 := hz.1; clear hz))
    all_goals
      go_ret
      refine ⟨ret_int ?_, HG1.out.trans (grown_any hb2 _), n1, D1, hn1, HO1.out.kept (row := none) (grown_any hb2 _) (by simp), HD1.out⟩
      rcases fromOk_cases HZ.out with ⟨h1, h2⟩ | ⟨h1, h2⟩ <;> omega
end Go.Proofs.Ytknjpdbdchnpeaa
