/- Merged: KidsP, KidsS, LwP. -/
import Derived.Test.YtknjpdbdchnpeaaFMSTexts
import Derived.Test.YtknjpdbdchnpeaaFM4
import Derived.Test.YtknjpdbdchnpeaaFM3
import Derived.Test.YtknjpdbdchnpeaaFM0
namespace Go.Proofs.Ytknjpdbdchnpeaa
open Go.RowKit

/-- What TypeKids leaves. -/
def KidsPost (o : Option Ty) (w : World) (e : Ending) (w' : World) : Prop :=
  (∃ q c, e = .returned (.tuple #[.slice q (kidsO o).length c, .bool o.isSome]) ∧ w'.ownsRow w.heap.size 9 1 (.slice q (kidsO o).length c) (kidsO o).length ((kidsO o).map fun t => Value.string t.text)) ∧ Below w.heap.size w w'
theorem kidsPost_none {w w' : World} (hb : Below w.heap.size w w') : KidsPost none w (.returned (.tuple #[.slice none 0 0, .bool false])) w' := ⟨⟨none, 0, rfl, World.ownsRow_nil _ _ _ _⟩, hb⟩
theorem kidsPost_some {ty : Ty} {l : List Ty} (hl : ty.kids = l) {w w1 w' : World} {q : Option Addr} {n c : Nat} (hn : l.length = n) (h1 : w.heap.size ≤ w1.heap.size) (hown : w'.ownsRow w1.heap.size 9 1 (.slice q l.length c) l.length (l.map fun t => Value.string t.text)) (hb : Below w.heap.size w w') :
    KidsPost (some ty) w (.returned (.tuple #[.slice q n c, .bool true])) w' := by
  subst hl; subst hn; exact ⟨⟨q, c, rfl, own_base hown h1⟩, hb⟩
theorem txt_ty {t : Tree} {ty : Ty} (h : t.ty = some ty) : t.txt = ty.text := by rw [Tree.txt, Ty.text, ty_write t ty h]

theorem own_zero {w : World} {t : TypeId} {B g : Nat} (hg : g = w.heap.size) (hB : B ≤ g) : (w.alloc (.cells #[] t)).ownsRow B t 1 (.slice (some ⟨g, 0, none⟩) 0 0) 0 [] := by
  subst hg; exact World.ownsRow_made w #[] 0 hB (Nat.zero_le _) rfl
theorem kidsPost_zero {o : Option Ty} {w w' : World} {g : Nat} {d : Bool} (hk : kidsO o = []) (hd : o.isSome = d) (hown : w'.ownsRow w.heap.size 9 1 (.slice (some ⟨g, 0, none⟩) 0 0) 0 []) (hb : Below w.heap.size w w') :
    KidsPost o w (.returned (.tuple #[.slice (some ⟨g, 0, none⟩) 0 0, .bool d])) w' := by
  subst hd; exact ⟨⟨some ⟨g, 0, none⟩, 0, by rw [hk]; rfl, by rw [hk]; exact hown⟩, hb⟩

set_option maxRecDepth 100000 in
set_option maxHeartbeats 2000000 in
theorem specTypeKids_any (s : ByteArray) (hs : s.size ≤ 400000000) (w : World) : Calls Try.prog 21 #[.string s] w (KidsPost (readTy s) w) := by
  have HC := hid (fun W => l1Type_any s hs W)
  cases ht : typeTree s with
  | none =>
    have HR := hid (typeTree_none ht)
    have HT := hid ht
    clear ht
    rw [HR.out]
    go_enter Try.func21, Try.ntmps21
    go_wp2_with (go_at_call 44; refine (HC.out _).mono ?_; rintro e w1 hp; rw [HT.out] at hp; obtain ⟨pa, pp, pl, pc, rfl, hpl, hb1⟩ := hp.none; clear hp)
    refine wp_loop_rounds 1 ?_
    rw [rounds_succ]
    have hmp : pl ≤ 9223372036854775807 := by unfold maxLen at hpl; omega
    rcases Nat.lt_or_ge 1 pl with h1 | h1
    all_goals
      go_wp2_with fail
      go_ret2
      have s1 := hb1.size
      exact kidsPost_zero rfl rfl (own_zero (by simp) (by omega)) ((hb1.alloc s1 _).alloc (by simp; omega) _)
  | some t =>
    obtain ⟨hpt, hsz, ty, hty, hrt, hk⟩ := typeTree_some ht
    have hwt := parse_wt hpt
    have hsm := parse_small hpt
    have HR := hid hrt
    have HT := hid ht
    clear ht hpt hrt hk
    rw [HR.out]
    cases t with
    | atom x =>
      have hkd : ty.kids = [] := by
        rw [Tree.ty] at hty; split at hty
        · simp at hty; subst hty; rfl
        · simp at hty
      have HKD := hid hkd
      clear hkd hty
      go_enter Try.func21, Try.ntmps21
      go_wp2_with (go_at_call 44; refine (HC.out _).mono ?_; rintro e w1 hp; rw [HT.out] at hp; obtain ⟨pa, pp, pl, pc, rfl, hb1, htr⟩ := hp.some; clear hp; obtain ⟨rfl, rfl, rfl, rfl, hne⟩ := htr.atom_inv; clear htr)
      refine wp_loop_rounds 1 ?_
      rw [rounds_succ]
      go_wp2_with fail
      go_ret2
      have s1 := hb1.size
      exact kidsPost_zero HKD.out rfl (own_zero (by simp) (by omega)) ((hb1.alloc s1 _).alloc (by simp; omega) _)
    | node ps =>
      cases ps with
      | nil => simp [Tree.ty] at hty
      | cons q qs =>
        rw [Tree.ty] at hty
        cases hks : Tree.tys qs with
        | none => rw [hks] at hty; simp at hty
        | some ks =>
          rw [hks] at hty; simp only at hty
          obtain ⟨n, hn⟩ : ∃ n, n = qs.length := ⟨_, rfl⟩
          have HKD := hid (tyParts_kids hty)
          have HG := hid (tys_get qs ks hks)
          have HKL := hid (show ks.length = n by rw [tys_length qs ks hks, hn])
          have HLQ := hid (show (q :: qs).length = n + 1 by rw [hn]; rfl)
          have HN := hid hn
          have hwl : ∀ (i : Nat) (p : Tree), (q :: qs)[i]? = some p → p.write.length ≤ 12000 ∧ p.wt ≤ 12000 := fun i p hp => by
            have h1 := join_part (q :: qs) i p hp
            have h2 := wt_part (q :: qs) i p hp
            rw [write_node] at hsm
            rw [Tree.wt] at hwt
            simp at hsm; omega
          have HWL := hid hwl
          have hlen := wts_length (q :: qs)
          rw [Tree.wt] at hwt
          rw [HLQ.out] at hlen
          have hn2 : n + 1 ≤ 12000 := by omega
          clear hty hks hn hwl hlen hwt hsm hsz
          go_enter Try.func21, Try.ntmps21
          go_wp2_with (go_at_call 44; refine (HC.out _).mono ?_; rintro e w1 hp; rw [HT.out] at hp; obtain ⟨pa, pp, pl, cap, rfl, hb1, htr⟩ := hp.some; clear hp; obtain ⟨b, A, hpa, hpp, hpl, hlc, hcm, hp0, hA, hB, hps⟩ := htr.node_inv; clear htr; subst hpa; subst hpp; rw [HLQ.out] at hpl hlc hA hB; subst hpl; have HA := hid hA; have HB := hid hB; have HPS := hid hps; clear hA hB hps hp0)
          have s1 := hb1.size
          have hmc : cap ≤ 9223372036854775807 := by unfold maxLen at hcm; omega
          go_loopw [6, 7] (fun v u wr => ∃ (j c : Nat) (g : Option Addr), j ≤ n ∧ u = .int .i64 ((j : Int) + 1) ∧ v = .slice g j c ∧ wr.ownsRow (w1.heap.size + 1) 9 1 (.slice g j c) j ((ks.take j).map fun t => Value.string t.text) ∧ Below (w1.heap.size + 1) (w1.alloc (.cells #[.string ByteArray.empty, .slice (some ⟨b, 0, none⟩) (n + 1) cap] 56)) wr) (fun _ u _ => n + 1 - (intOf u).toNat)
          case atStart => exact ⟨0, 0, _, Nat.zero_le _, rfl, rfl, own_zero (by simp) (by omega), (Below.refl _ _).alloc (by simp) _⟩
          case round =>
            obtain ⟨j, c, g, hj, rfl, rfl, hown, hbel⟩ := hrel
            have HOWN := hid hown
            have hz := hbel.size
            simp at hz
            clear hown
            have kb : Kept w1 wr := ((Kept.refl w1).alloc (Nat.le_refl _) _).below hbel (by omega)
            have e1 := cells_of_pair (block_below (heap_new w1 (.cells #[.string ByteArray.empty, .slice (some ⟨b, 0, none⟩) (n + 1) cap] 56) w1.heap.size rfl) hbel (by omega))
            by_cases hlt : j < n
            · have ca := kb.cell (HA.out (j + 1) (by omega))
              have cb := kb.cell (HB.out (j + 1) (by omega))
              obtain ⟨p, hp⟩ : ∃ p, qs[j]? = some p := ⟨_, List.getElem?_eq_getElem (by rw [← HN.out]; exact hlt)⟩
              obtain ⟨tp, htp, hpt⟩ := HG.out j p hp
              have hqp : (q :: qs)[j + 1]? = some p := by simpa using hp
              obtain ⟨x, hx⟩ : ∃ x, p.txt = x := ⟨_, rfl⟩
              have HX := hid hx
              have HXT := hid (show tp.text = x by rw [← txt_ty hpt, hx])
              have HC1 := hid (l1Text_any (HPS.out (j + 1) p hqp) (HWL.out _ _ hqp).1 (HWL.out _ _ hqp).2 wr kb (by omega))
              have HTP := hid htp
              obtain ⟨i0, hi0, hz0, hz1, hz2⟩ := info_parts Try.infoStr
              clear hp htp hpt hqp hx kb
              go_wp2_with (first | (at_builtin; refine wpList_append_at _ rfl (.tmp 24) (.tmp 31) 25 rfl (w1.heap.size + 1) 9 i0 (.string ByteArray.empty) 1 16 Try.underlying25 hi0 hz0 hz1 hz2 rfl (by decide) (.slice g j c) j _ rfl ((ownsRow_under HOWN.out hb2).alloc _) ⟨w2.heap.size, 0, none⟩ 1 1 [.string x] rfl rfl (cells_new1 _ _ _ _ rfl) (by intro u hu; simp at hu; subst hu; rfl) (by decide) (by unfold maxLen; omega) (by omega) (by have := hb2.size; simp; omega) ?_; intro v' w3 hown2 hg2 hw2 hv2; obtain ⟨g2, kc2, rfl⟩ := hv2; have HG2 := hid hg2; have HO := hid hown2; clear hg2 hown2 hw2) | (go_at_call 47; refine HC1.out.mono ?_; rintro e w2 ⟨he2, hb2⟩; rw [HX.out] at he2; subst he2))
              go_roundw
              case rel =>
                refine ⟨j + 1, kc2, some ⟨g2, 0, none⟩, by omega, by go_num, rfl, ?_, ?_⟩
                · rw [List.take_add_one, HTP.out, List.map_append]; simp only [Option.toList_some, List.map_cons, List.map_nil]; rw [HXT.out]; exact HO.out
                · have hlo := HOWN.out.lt
                  have s2 := hb2.size
                  exact ((hbel.trans (hb2.mono (by omega))).alloc (by omega) _).grown HG2.out (by simp; omega) (fun k e => (hlo k e).1)
              case measure => simp [intOf]; omega
            · have hjn : j = n := by omega
              have HJN := hid hjn
              clear hjn kb
              go_wp2_with fail
              go_ret2
              have hfin := HOWN.out
              rw [HJN.out, List.take_of_length_le (by rw [HKL.out]; exact Nat.le_refl _)] at hfin
              rw [← HKL.out] at hfin
              exact kidsPost_some HKD.out (by rw [HKL.out, HJN.out]) (by omega) (w1 := w1) (own_base hfin (by omega)) ((hb1.alloc s1 _).trans (hbel.mono (by omega)))
end Go.Proofs.Ytknjpdbdchnpeaa

namespace Go.Proofs.Ytknjpdbdchnpeaa
open Go.RowKit

theorem lw_good {s : ByteArray} {ty : Ty} (h : readTy s = some ty) : ty.wf = true ∧ ty.atoms ≤ 12 := by
  unfold readTy at h
  split at h
  · rename_i t _
    split at h
    · rename_i hc; exact ⟨ty_wf t ty h, by rw [← ty_size t ty h]; exact hc⟩
    · simp at h
  · simp at h
theorem lw_data (t : Ty) : t.text.data.toList = t.write := rfl
theorem lw_read {t : Ty} (hw : t.wf = true) (h : t.atoms ≤ 12) : readTy t.text = some t := by
  have hp : parse t.text = some t.tree :=
    parse_back (by rw [lw_data, ty_tree_write]) (tree_wk t) (by have := tree_dp t; omega) (by rw [ty_tree_write]; have := ty_write_len t; omega)
  unfold readTy
  rw [hp]
  simp only
  rw [ty_tree_size, if_pos h, tree_ty t hw]
theorem lw_kid {ty k : Ty} (hw : ty.wf = true) (hk : k ∈ ty.kids) : k.wf = true ∧ k.atoms < ty.atoms := by
  cases ty with
  | bit => simp [Ty.kids] at hk
  | pair a b =>
    simp only [Ty.wf, Bool.and_eq_true] at hw
    simp [Ty.kids] at hk
    rcases hk with rfl | rfl
    · exact ⟨hw.1.1.1, by rw [Ty.atoms]; omega⟩
    · exact ⟨hw.1.1.2, by rw [Ty.atoms]; omega⟩
  | thunk c =>
    simp only [Ty.wf, Bool.and_eq_true] at hw
    simp [Ty.kids] at hk
    subst hk
    exact ⟨hw.1, by rw [Ty.atoms]; omega⟩
  | ret a =>
    simp only [Ty.wf, Bool.and_eq_true] at hw
    simp [Ty.kids] at hk
    subst hk
    exact ⟨hw.1, by rw [Ty.atoms]; omega⟩
  | fn a c =>
    simp only [Ty.wf, Bool.and_eq_true] at hw
    simp [Ty.kids] at hk
    rcases hk with rfl | rfl
    · exact ⟨hw.1.1.1, by rw [Ty.atoms]; omega⟩
    · exact ⟨hw.1.1.2, by rw [Ty.atoms]; omega⟩
  | choice a c =>
    simp only [Ty.wf, Bool.and_eq_true] at hw
    simp [Ty.kids] at hk
    rcases hk with rfl | rfl
    · exact ⟨hw.1.1.1, by rw [Ty.atoms]; omega⟩
    · exact ⟨hw.1.1.2, by rw [Ty.atoms]; omega⟩
/-- A part's text is read as the part. -/
theorem lw_kid_read {s : ByteArray} {ty : Ty} (h : readTy s = some ty) {i : Nat} {k : Ty} (hk : ty.kids[i]? = some k) : readTy k.text = some k := by
  obtain ⟨hw, ha⟩ := lw_good h
  have hm := lw_kid hw (List.mem_of_getElem? hk)
  exact lw_read hm.1 (by omega)
theorem lw_size {s : ByteArray} {ty : Ty} (h : readTy s = some ty) {i : Nat} {k : Ty} (hk : ty.kids[i]? = some k) : k.text.size ≤ 60 := by
  obtain ⟨hw, ha⟩ := lw_good h
  have hm := lw_kid hw (List.mem_of_getElem? hk)
  rw [text_size]
  have := ty_write_len k
  omega
theorem lw_kids2 (ty : Ty) : ty.kids.length ≤ 2 := by cases ty <;> simp [Ty.kids]
/-- A text is what its type writes. -/
theorem lw_text {s : ByteArray} {ty : Ty} (h : readTy s = some ty) : s = ty.text := bytes_of_toList (readTy_write h)
/-- What heads and kinds tell, in the spelling of the tests. -/
theorem lw_kinds (ty : Ty) :
    (((⟨#[ty.headB]⟩ : ByteArray).toList == [98]) = true ∧ ((⟨#[ty.headB]⟩ : ByteArray).toList == [42]) = false ∧ ((⟨#[ty.headB]⟩ : ByteArray).toList == [117]) = false ∧ (ty.kindS.toList == [118, 97, 108, 117, 101]) = true ∧ (ty.kindS.toList == [99, 111, 109, 112, 117, 116, 97, 116, 105, 111, 110]) = false ∧ ty.isVal = true) ∨
    (((⟨#[ty.headB]⟩ : ByteArray).toList == [98]) = false ∧ ((⟨#[ty.headB]⟩ : ByteArray).toList == [42]) = true ∧ ((⟨#[ty.headB]⟩ : ByteArray).toList == [117]) = false ∧ (ty.kindS.toList == [118, 97, 108, 117, 101]) = true ∧ (ty.kindS.toList == [99, 111, 109, 112, 117, 116, 97, 116, 105, 111, 110]) = false ∧ ty.isVal = true) ∨
    (((⟨#[ty.headB]⟩ : ByteArray).toList == [98]) = false ∧ ((⟨#[ty.headB]⟩ : ByteArray).toList == [42]) = false ∧ ((⟨#[ty.headB]⟩ : ByteArray).toList == [117]) = true ∧ (ty.kindS.toList == [118, 97, 108, 117, 101]) = true ∧ (ty.kindS.toList == [99, 111, 109, 112, 117, 116, 97, 116, 105, 111, 110]) = false ∧ ty.isVal = true) ∨
    (((⟨#[ty.headB]⟩ : ByteArray).toList == [98]) = false ∧ ((⟨#[ty.headB]⟩ : ByteArray).toList == [42]) = false ∧ ((⟨#[ty.headB]⟩ : ByteArray).toList == [117]) = false ∧ (ty.kindS.toList == [118, 97, 108, 117, 101]) = false ∧ (ty.kindS.toList == [99, 111, 109, 112, 117, 116, 97, 116, 105, 111, 110]) = true ∧ ty.isVal = false) := by
  rw [kindS_toList, Go.ByteArray.toList_eq]
  cases ty with
  | bit => left; exact ⟨rfl, rfl, rfl, rfl, rfl, rfl⟩
  | pair a b => right; left; exact ⟨rfl, rfl, rfl, rfl, rfl, rfl⟩
  | thunk c => right; right; left; exact ⟨rfl, rfl, rfl, rfl, rfl, rfl⟩
  | ret a => right; right; right; exact ⟨rfl, rfl, rfl, rfl, rfl, rfl⟩
  | fn a c => right; right; right; exact ⟨rfl, rfl, rfl, rfl, rfl, rfl⟩
  | choice a c => right; right; right; exact ⟨rfl, rfl, rfl, rfl, rfl, rfl⟩
/-- What TypeKids leaves, of a type that is read: a row of its parts' texts. -/
def KdPost (L : List Ty) (n : Nat) (d : Bool) (w : World) (e : Ending) (w' : World) : Prop :=
  ∃ q c, e = .returned (.tuple #[.slice q n c, .bool d]) ∧ Vals w' q ((L.map Ty.text).map .string) ∧ (∀ b o, q = some ⟨b, o, none⟩ → b < w'.heap.size) ∧ Below w.heap.size w w'
theorem lw_under {w : World} {base : Nat} {e : TypeId} {q : Option Addr} {n c : Nat} {xs : List Value} (h : w.ownsRow base e 1 (.slice q n c) n xs) : ∀ b o, q = some ⟨b, o, none⟩ → b < w.heap.size := by
  intro b o e
  rcases h.2 with ⟨hv, _⟩ | ⟨g, cap, cur, hv, hbg, hg, _⟩
  · have : q = none := by simp at hv; exact hv.1
    rw [this] at e; cases e
  · obtain ⟨rfl, _⟩ : q = some ⟨g, 0, none⟩ ∧ c = cap := by simp at hv; exact hv
    simp at e
    have := lt_of_block hg
    omega
theorem lw_vals {w w' : World} {q : Option Addr} {l : List Value} {B : Nat} (h : Vals w q l) (hb : Below B w w') (hq : ∀ b o, q = some ⟨b, o, none⟩ → b < B) : Vals w' q l := fun i v hv =>
  let ⟨b, o, hp, hc⟩ := h i v hv
  ⟨b, o, hp, (hb.cell (p := ⟨b, o + i, none⟩) (hq b o hp)).trans hc⟩
theorem lw_kids_post {o : Option Ty} {w w' : World} {e : Ending} (h : KidsPost o w e w') : KdPost (kidsO o) (kidsO o).length o.isSome w e w' := by
  obtain ⟨⟨q, c, rfl, ho⟩, hb⟩ := h
  refine ⟨q, c, rfl, ?_, lw_under ho, hb⟩
  have := vals_any ho
  rw [List.map_map]; exact this
theorem lw_get {L : List Ty} {i : Nat} {k : Ty} (h : L[i]? = some k) : ((L.map Ty.text).map Value.string)[i]? = some (.string k.text) := by simp [h]
end Go.Proofs.Ytknjpdbdchnpeaa
