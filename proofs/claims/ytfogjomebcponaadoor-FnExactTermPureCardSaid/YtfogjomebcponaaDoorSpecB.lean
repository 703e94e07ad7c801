/- The model's kind of a tree. -/
import Derived.Test.YtfogjomebcponaaDoorSpecAI
namespace Go.Proofs.YtfogjomebcponaaDoor
open Go.RowKit

theorem nodeKind_empty (ks : List ByteArray) : nodeKind ByteArray.empty ks = ByteArray.empty := by simp [nodeKind]
theorem nodeKind_0 {hd : ByteArray} {ks : List ByteArray}  (e0 : (hd.toList == [42]) = true) : nodeKind hd ks = l1IfP ks [strV, strV] strV := by
  rw [nodeKind, if_pos (by simpa using e0)]
theorem nodeKind_1 {hd : ByteArray} {ks : List ByteArray} (e0 : (hd.toList == [42]) = false) (e1 : (hd.toList == [117]) = true) : nodeKind hd ks = l1IfP ks [strC] strV := by
  rw [nodeKind, if_neg (by simpa using e0), if_pos (by simpa using e1)]
theorem nodeKind_2 {hd : ByteArray} {ks : List ByteArray} (e0 : (hd.toList == [42]) = false) (e1 : (hd.toList == [117]) = false) (e2 : (hd.toList == [102]) = true) : nodeKind hd ks = l1IfP ks [strV] strC := by
  rw [nodeKind, if_neg (by simpa using e0), if_neg (by simpa using e1), if_pos (by simpa using e2)]
theorem nodeKind_3 {hd : ByteArray} {ks : List ByteArray} (e0 : (hd.toList == [42]) = false) (e1 : (hd.toList == [117]) = false) (e2 : (hd.toList == [102]) = false) (e3 : (hd.toList == [62]) = true) : nodeKind hd ks = l1IfP ks [strV, strC] strC := by
  rw [nodeKind, if_neg (by simpa using e0), if_neg (by simpa using e1), if_neg (by simpa using e2), if_pos (by simpa using e3)]
theorem nodeKind_4 {hd : ByteArray} {ks : List ByteArray} (e0 : (hd.toList == [42]) = false) (e1 : (hd.toList == [117]) = false) (e2 : (hd.toList == [102]) = false) (e3 : (hd.toList == [62]) = false) (e4 : (hd.toList == [38]) = true) : nodeKind hd ks = l1IfP ks [strC, strC] strC := by
  rw [nodeKind, if_neg (by simpa using e0), if_neg (by simpa using e1), if_neg (by simpa using e2), if_neg (by simpa using e3), if_pos (by simpa using e4)]
theorem nodeKind_5 {hd : ByteArray} {ks : List ByteArray} (e0 : (hd.toList == [42]) = false) (e1 : (hd.toList == [117]) = false) (e2 : (hd.toList == [102]) = false) (e3 : (hd.toList == [62]) = false) (e4 : (hd.toList == [38]) = false) : nodeKind hd ks = ByteArray.empty := by
  rw [nodeKind, if_neg (by simpa using e0), if_neg (by simpa using e1), if_neg (by simpa using e2), if_neg (by simpa using e3), if_neg (by simpa using e4)]
theorem kinds_snoc (ps : List Tree) (j : Nat) (p : Tree) (h : ps[j + 1]? = some p) : ((ps.map Tree.kind).drop 1).take (j + 1) = ((ps.map Tree.kind).drop 1).take j ++ [p.kind] := by
  rw [List.take_add_one]; simp [h]

set_option maxRecDepth 100000 in
set_option maxHeartbeats 2000000 in
theorem l1Kind_go (ps : List Tree) (a : ByteArray) (b cap : Nat) (pp : Option Addr) (l : Nat) (A : Nat → Hd) (hd : ByteArray) (w : World) (ha : a.toList ≠ [98]) (hl : ps.length = l) (hm : l ≤ 20000) (hpp : 1 < l → pp = some ⟨b, 0, none⟩)
    (hA : ∀ i, i < l → w.cell? ⟨b, i * 2, none⟩ = some (.string (A i).a)) (hB : ∀ i, i < l → w.cell? ⟨b, i * 2 + 1, none⟩ = some (.slice (A i).p (A i).l (A i).c))
    (ih : ∀ i p, ps[i]? = some p → ∀ w', Kept w w' → w.heap.size ≤ w'.heap.size → Calls Tryd.prog 19 #[.agg #[.string (A i).a, .slice (A i).p (A i).l (A i).c]] w' fun e w'' => e = .returned (.string p.kind) ∧ Below w'.heap.size w' w'')
    (hh : ∀ w', Kept w w' → Calls Tryd.prog 32 #[.agg #[.string a, .slice pp l cap]] w' fun e w'' => e = .returned (.string hd) ∧ Below w'.heap.size w' w'') :
    Calls Tryd.prog 19 #[.agg #[.string a, .slice pp l cap]] w fun e w' => e = .returned (.string (nodeKind hd ((ps.map Tree.kind).drop 1))) ∧ Below w.heap.size w w' := by
  have h1 : (a.toList == [98]) = false := by simpa using ha
  have HA := hid hA
  have HB := hid hB
  have HIH := hid ih
  have HH := hid hh
  have HL := hid hl
  have HPP := hid hpp
  clear ha hA hB ih hh hl hpp
  go_enter Tryd.func19, Tryd.ntmps19
  go_wp2_with fail
  go_loopw [3, 4] (fun v u wr => ∃ j g cp : Nat, u = .int .i64 ((j : Int) + 1) ∧ v = .slice (some ⟨g, 0, none⟩) j cp ∧ (j = 0 ∨ j + 1 ≤ l) ∧
      wr.ownsRow (w.heap.size + 1) 9 1 (.slice (some ⟨g, 0, none⟩) j cp) j ((((ps.map Tree.kind).drop 1).take j).map Value.string) ∧
      Below (w.heap.size + 1) (w.alloc (.cells #[.string a, .slice pp l cap] 27)) wr) (fun _ u _ => l - (intOf u).toNat)
  case atStart =>
    refine ⟨0, w.heap.size + 1, 0, rfl, rfl, Or.inl rfl, ?_, (Below.refl _ _).alloc (by simp) _⟩
    have := World.ownsRow_made (w := w.alloc (.cells #[.string a, .slice pp l cap] 27)) (base := w.heap.size + 1) (e := 9) (size := 1) #[] 0 (by simp) (by simp) (by simp)
    simpa using this
  case round =>
    obtain ⟨j, g, cp, rfl, rfl, hj, hown, hbel⟩ := hrel
    have hz := hbel.size
    simp at hz
    have c1 := cells_of_pair (block_below (heap_new w (.cells #[.string a, .slice pp l cap] 27) w.heap.size rfl) hbel (by omega))
    have kb : Kept w wr := ((Kept.refl w).below ((Below.refl w.heap.size w).alloc (by simp) _) (Nat.le_refl _)).below hbel (by omega)
    by_cases hlt : j + 1 < l
    · have HPPo := HPP.out (by omega)
      subst HPPo
      have ca := kb.cell (HA.out (j + 1) hlt)
      have cb := kb.cell (HB.out (j + 1) hlt)
      obtain ⟨p, hp⟩ : ∃ p, ps[j + 1]? = some p := ⟨ps[j + 1]'(by rw [HL.out]; exact hlt), List.getElem?_eq_getElem _⟩
      have HC := hid (HIH.out (j + 1) p hp wr kb (by omega))
      have HP := hid hp
      have HOWN := hid hown
      obtain ⟨i0, hi0, hz0, hz1, hz2⟩ := info_parts Tryd.infoStr
      have HJ := hid hj
      have KB := hid kb
      clear hp hown hj kb
      go_wp2_with (first | (at_builtin; refine wpList_append_at _ rfl (.tmp 18) (.tmp 25) 52 rfl (w.heap.size + 1) 9 i0 (.string ByteArray.empty) 1 16 Tryd.underlying52 hi0 hz0 hz1 hz2 rfl (by decide) (.slice (some ⟨g, 0, none⟩) j cp) j _ rfl ((ownsRow_under HOWN.out hb1).alloc _) ⟨w1.heap.size, 0, none⟩ 1 1 [.string p.kind] rfl rfl (cells_new1 _ _ _ _ rfl) (by intro u hu; simp at hu; subst hu; rfl) (by decide) (by unfold maxLen; omega) (by omega) (by have := hb1.size; simp; omega) ?_; intro v' w2 hown2 hg2 hw2 hv2; obtain ⟨g2, kc, rfl⟩ := hv2; have HG := hid hg2; have HO := hid hown2; clear hg2 hown2 hw2) | (go_at_call 19; refine HC.out.mono ?_; rintro e w1 ⟨rfl, hb1⟩))
      go_roundw
      case rel =>
        refine ⟨j + 1, g2, kc, by go_num, rfl, Or.inr (by omega), ?_, ?_⟩
        · rw [kinds_snoc ps j p HP.out, List.map_append]; exact HO.out
        · have hlo := HOWN.out.lt
          exact ((hbel.trans (hb1.mono (by omega))).alloc (by have := hb1.size; omega) _).grown HG.out (by have := hb1.size; simp; omega) (fun k e => (hlo k e).1)
      case measure => simp [intOf]; omega
    · have hks : ((ps.map Tree.kind).drop 1).take j = (ps.map Tree.kind).drop 1 := List.take_of_length_le (by simp [HL.out]; omega)
      have hlk : ((ps.map Tree.kind).drop 1).length = j := by simp [HL.out]; omega
      rw [hks] at hown
      have HS := hid (strs_own hown)
      have HLK := hid hlk
      have HD := hid (HH.out wr kb)
      obtain ⟨ks, hkse⟩ : ∃ ks, ks = (ps.map Tree.kind).drop 1 := ⟨_, rfl⟩
      rw [← hkse] at HS HLK ⊢
      have hjb : j ≤ 20000 := by omega
      have HKSE := hid hkse
      clear hkse
      clear hks hlk hown hj kb
      have HBW : Hid (Below w.heap.size w wr) := (((Below.refl _ _).alloc (by simp) _).trans (hbel.mono (by omega)))
      go_wp2_with (go_at_call 32; refine HD.out.mono ?_; rintro e w1 ⟨rfl, hb1⟩)
      · have e0 : (hd.toList == [42]) = true := by assumption
        have HQ := hid (nodeKind_0 (ks := ks) e0)
        refine (l1If_n _ ks [strV, strV] _ _ _ _ 2 _ _ (HS.out.kept ((Kept.of_below hb1 (Nat.le_refl _)).alloc hb1.size _)) (strs_new2 _ _ _ _ _ rfl) HLK.out rfl (by decide)).mono ?_
        rintro e w2 ⟨rfl, hb2⟩
        go_wp2_with fail
        go_ret
        exact ⟨ret_str (by rw [← HKSE.out, HQ.out]; rfl), HBW.out.trans ((hb1.mono (by omega)).trans (((Below.refl _ _).alloc (by have := hb1.size; omega) _).trans (hb2.mono (by have := hb1.size; simp; omega))))⟩
      · have e0 : (hd.toList == [42]) = false := by assumption
        have e1 : (hd.toList == [117]) = true := by assumption
        have HQ := hid (nodeKind_1 (ks := ks) e0 e1)
        refine (l1If_n _ ks [strC] _ _ _ _ 1 _ _ (HS.out.kept ((Kept.of_below hb1 (Nat.le_refl _)).alloc hb1.size _)) (strs_new1 _ _ _ _ rfl) HLK.out rfl (by decide)).mono ?_
        rintro e w2 ⟨rfl, hb2⟩
        go_wp2_with fail
        go_ret
        exact ⟨ret_str (by rw [← HKSE.out, HQ.out]; rfl), HBW.out.trans ((hb1.mono (by omega)).trans (((Below.refl _ _).alloc (by have := hb1.size; omega) _).trans (hb2.mono (by have := hb1.size; simp; omega))))⟩
      · have e0 : (hd.toList == [42]) = false := by assumption
        have e1 : (hd.toList == [117]) = false := by assumption
        have e2 : (hd.toList == [102]) = true := by assumption
        have HQ := hid (nodeKind_2 (ks := ks) e0 e1 e2)
        refine (l1If_n _ ks [strV] _ _ _ _ 1 _ _ (HS.out.kept ((Kept.of_below hb1 (Nat.le_refl _)).alloc hb1.size _)) (strs_new1 _ _ _ _ rfl) HLK.out rfl (by decide)).mono ?_
        rintro e w2 ⟨rfl, hb2⟩
        go_wp2_with fail
        go_ret
        exact ⟨ret_str (by rw [← HKSE.out, HQ.out]; rfl), HBW.out.trans ((hb1.mono (by omega)).trans (((Below.refl _ _).alloc (by have := hb1.size; omega) _).trans (hb2.mono (by have := hb1.size; simp; omega))))⟩
      · have e0 : (hd.toList == [42]) = false := by assumption
        have e1 : (hd.toList == [117]) = false := by assumption
        have e2 : (hd.toList == [102]) = false := by assumption
        have e3 : (hd.toList == [62]) = true := by assumption
        have HQ := hid (nodeKind_3 (ks := ks) e0 e1 e2 e3)
        refine (l1If_n _ ks [strV, strC] _ _ _ _ 2 _ _ (HS.out.kept ((Kept.of_below hb1 (Nat.le_refl _)).alloc hb1.size _)) (strs_new2 _ _ _ _ _ rfl) HLK.out rfl (by decide)).mono ?_
        rintro e w2 ⟨rfl, hb2⟩
        go_wp2_with fail
        go_ret
        exact ⟨ret_str (by rw [← HKSE.out, HQ.out]; rfl), HBW.out.trans ((hb1.mono (by omega)).trans (((Below.refl _ _).alloc (by have := hb1.size; omega) _).trans (hb2.mono (by have := hb1.size; simp; omega))))⟩
      · have e0 : (hd.toList == [42]) = false := by assumption
        have e1 : (hd.toList == [117]) = false := by assumption
        have e2 : (hd.toList == [102]) = false := by assumption
        have e3 : (hd.toList == [62]) = false := by assumption
        have e4 : (hd.toList == [38]) = true := by assumption
        have HQ := hid (nodeKind_4 (ks := ks) e0 e1 e2 e3 e4)
        refine (l1If_n _ ks [strC, strC] _ _ _ _ 2 _ _ (HS.out.kept ((Kept.of_below hb1 (Nat.le_refl _)).alloc hb1.size _)) (strs_new2 _ _ _ _ _ rfl) HLK.out rfl (by decide)).mono ?_
        rintro e w2 ⟨rfl, hb2⟩
        go_wp2_with fail
        go_ret
        exact ⟨ret_str (by rw [← HKSE.out, HQ.out]; rfl), HBW.out.trans ((hb1.mono (by omega)).trans (((Below.refl _ _).alloc (by have := hb1.size; omega) _).trans (hb2.mono (by have := hb1.size; simp; omega))))⟩
      · have e0 : (hd.toList == [42]) = false := by assumption
        have e1 : (hd.toList == [117]) = false := by assumption
        have e2 : (hd.toList == [102]) = false := by assumption
        have e3 : (hd.toList == [62]) = false := by assumption
        have e4 : (hd.toList == [38]) = false := by assumption
        have HQ := hid (nodeKind_5 (ks := ks) e0 e1 e2 e3 e4)
        go_ret
        exact ⟨ret_str (by rw [← HKSE.out, HQ.out]; rfl), HBW.out.trans (hb1.mono (by omega))⟩

/-- THE MODEL's KIND of a tree. -/
theorem l1Kind_any {w0 : World} {S : Nat → Prop} {t : Tree} {h : Hd} (ht : TIn w0 S t h) : t.wt ≤ 12000 → ∀ w, Kept w0 w → w0.heap.size ≤ w.heap.size →
    Calls Tryd.prog 19 #[.agg #[.string h.a, .slice h.p h.l h.c]] w fun e w' => e = .returned (.string t.kind) ∧ Below w.heap.size w w' := by
  have hh := fun (w : World) (hk : Kept w0 w) => l1Head_any ht w hk
  induction ht with
  | atom s hne hm =>
    intro _ w hk hw
    by_cases hb : s.toList = [98]
    · have h1 : (s.toList == [98]) = true := by simp [hb]
      have HB := hid hb
      clear hb hh
      go_enter Tryd.func19, Tryd.ntmps19
      go_wp2_with fail
      go_ret
      exact ⟨ret_str (by rw [Tree.kind, if_pos HB.out]; rfl), (Below.refl _ _).alloc (by simp) _⟩
    · have := l1Kind_go [] s 0 0 none 0 (fun _ => default) ByteArray.empty w hb rfl (by omega) (by omega) (fun i hi => by omega) (fun i hi => by omega) (fun i p hp => by simp at hp) (fun w' hk' => hh w' (hk.trans hk' hw))
      refine this.mono fun e w' h => ⟨?_, h.2⟩
      rw [h.1, Tree.kind, if_neg hb, nodeKind_empty]
  | node ps b cap A hp hl hc hS hA hB hps ih =>
    intro hsz w hk hw
    have hlen := wts_length ps
    rw [Tree.wt] at hsz
    have := l1Kind_go ps ByteArray.empty b cap (some ⟨b, 0, none⟩) ps.length A (Tree.node ps).headAtom w (by rw [empty_toList]; simp) rfl (by omega) (fun _ => rfl) (fun i hi => hk.cell (hA i hi)) (fun i hi => hk.cell (hB i hi))
      (fun i p hp w' hk' hw' => ih i p hp (fun w hk => l1Head_any (hps i p hp) w hk) (by have := wt_part ps i p hp; omega) w' (hk.trans hk' hw) (by omega)) (fun w' hk' => hh w' (hk.trans hk' hw))
    refine this.mono fun e w' h => ⟨?_, h.2⟩
    rw [h.1, Tree.kind, kinds_map]

end Go.Proofs.YtfogjomebcponaaDoor
