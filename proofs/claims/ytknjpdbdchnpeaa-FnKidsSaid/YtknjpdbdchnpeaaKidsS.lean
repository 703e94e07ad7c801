/- TypeKids by the model. -/
import Derived.Test.YtknjpdbdchnpeaaText
import Derived.Test.YtknjpdbdchnpeaaTyR
import Derived.Test.YtknjpdbdchnpeaaKidsP
namespace Go.Proofs.Ytknjpdbdchnpeaa
open Go.RowKit

/-- What TypeKids leaves. -/
def KidsPost (o : Option Ty) (w : World) (e : Ending) (w' : World) : Prop :=
  (∃ q c, e = .returned (.tuple #[.slice q (kidsO o).length c, .bool o.isSome]) ∧ w'.ownsRow w.heap.size 9 1 (.slice q (kidsO o).length c) (kidsO o).length ((kidsO o).map fun t => Value.string t.text)) ∧ Below w.heap.size w w'
theorem kidsPost_none {w w' : World} (hb : Below w.heap.size w w') : KidsPost none w (.returned (.tuple #[.slice none 0 0, .bool false])) w' := ⟨⟨none, 0, rfl, World.ownsRow_nil _ _ _ _⟩, hb⟩
theorem kidsPost_some {ty : Ty} {l : List Ty} (hl : ty.kids = l) {w w1 w' : World} {q : Option Addr} {n c : Nat} (hn : l.length = n) (h1 : w.heap.size ≤ w1.heap.size) (hown : w'.ownsRow w1.heap.size 9 1 (.slice q l.length c) l.length (l.map fun t => Value.string t.text)) (hb : Below w.heap.size w w') :
    KidsPost (some ty) w (.returned (.tuple #[.slice q n c, .bool true])) w' := by
  subst hl; subst hn; exact ⟨⟨q, c, rfl, own_base hown h1⟩, hb⟩
theorem txt_ty {t : Tree} {ty : Ty} (h : t.ty = some ty) : t.txt = ty.text := by rw [Tree.txt, Ty.text, ty_write t ty h]

theorem own_zero {w : World} {t : TypeId} {B g : Nat} (hg : g = w.heap.size) (hB : B ≤ g) : (w.alloc (.cells #[] t)).ownsRow B t 1 (.slice (some ⟨g, 0, none⟩) 0 0) 0 [] := by
  subst hg; exact World.ownsRow_made w #[] 0 hB (Nat.zero_le _) rfl
theorem kidsPost_zero {o : Option Ty} {w w' : World} {g : Nat} {d : Bool} (hk : kidsO o = []) (hd : o.isSome = d) (hown : w'.ownsRow w.heap.size 9 1 (.slice (some ⟨g, 0, none⟩) 0 0) 0 []) (hb : Below w.heap.size w w') :
    KidsPost o w (.returned (.tuple #[.slice (some ⟨g, 0, none⟩) 0 0, .bool d])) w' := by
  subst hd; exact ⟨⟨some ⟨g, 0, none⟩, 0, by rw [hk]; rfl, by rw [hk]; exact hown⟩, hb⟩

set_option maxRecDepth 100000 in
set_option maxHeartbeats 2000000 in
theorem specTypeKids_any (s : ByteArray) (hs : s.size ≤ 400000000) (w : World) : Calls Try.prog 21 #[.string s] w (KidsPost (readTy s) w) := by
  have HC := hid (fun W => l1Type_any s hs W)
  cases ht : typeTree s with
  | none =>
    have HR := hid (typeTree_none ht)
    have HT := hid ht
    clear ht
    rw [HR.out]
    go_enter Try.func21, Try.ntmps21
    go_wp2_with (go_at_call 44; refine (HC.out _).mono ?_; rintro e w1 hp; rw [HT.out] at hp; obtain ⟨pa, pp, pl, pc, rfl, hpl, hb1⟩ := hp.none; clear hp)
    refine wp_loop_rounds 1 ?_
    rw [rounds_succ]
    have hmp : pl ≤ 9223372036854775807 := by unfold maxLen at hpl; omega
    rcases Nat.lt_or_ge 1 pl with h1 | h1
    all_goals
      go_wp2_with fail
      go_ret2
      have s1 := hb1.size
      exact kidsPost_zero rfl rfl (own_zero (by simp) (by omega)) ((hb1.alloc s1 _).alloc (by simp; omega) _)
  | some t =>
    obtain ⟨hpt, hsz, ty, hty, hrt, hk⟩ := typeTree_some ht
    have hwt := parse_wt hpt
    have hsm := parse_small hpt
    have HR := hid hrt
    have HT := hid ht
    clear ht hpt hrt hk
    rw [HR.out]
    cases t with
    | atom x =>
      have hkd : ty.kids = [] := by
        rw [Tree.ty] at hty; split at hty
        · simp at hty; subst hty; rfl
        · simp at hty
      have HKD := hid hkd
      clear hkd hty
      go_enter Try.func21, Try.ntmps21
      go_wp2_with (go_at_call 44; refine (HC.out _).mono ?_; rintro e w1 hp; rw [HT.out] at hp; obtain ⟨pa, pp, pl, pc, rfl, hb1, htr⟩ := hp.some; clear hp; obtain ⟨rfl, rfl, rfl, rfl, hne⟩ := htr.atom_inv; clear htr)
      refine wp_loop_rounds 1 ?_
      rw [rounds_succ]
      go_wp2_with fail
      go_ret2
      have s1 := hb1.size
      exact kidsPost_zero HKD.out rfl (own_zero (by simp) (by omega)) ((hb1.alloc s1 _).alloc (by simp; omega) _)
    | node ps =>
      cases ps with
      | nil => simp [Tree.ty] at hty
      | cons q qs =>
        rw [Tree.ty] at hty
        cases hks : Tree.tys qs with
        | none => rw [hks] at hty; simp at hty
        | some ks =>
          rw [hks] at hty; simp only at hty
          obtain ⟨n, hn⟩ : ∃ n, n = qs.length := ⟨_, rfl⟩
          have HKD := hid (tyParts_kids hty)
          have HG := hid (tys_get qs ks hks)
          have HKL := hid (show ks.length = n by rw [tys_length qs ks hks, hn])
          have HLQ := hid (show (q :: qs).length = n + 1 by rw [hn]; rfl)
          have HN := hid hn
          have hwl : ∀ (i : Nat) (p : Tree), (q :: qs)[i]? = some p → p.write.length ≤ 12000 ∧ p.wt ≤ 12000 := fun i p hp => by
            have h1 := join_part (q :: qs) i p hp
            have h2 := wt_part (q :: qs) i p hp
            rw [write_node] at hsm
            rw [Tree.wt] at hwt
            simp at hsm; omega
          have HWL := hid hwl
          have hlen := wts_length (q :: qs)
          rw [Tree.wt] at hwt
          rw [HLQ.out] at hlen
          have hn2 : n + 1 ≤ 12000 := by omega
          clear hty hks hn hwl hlen hwt hsm hsz
          go_enter Try.func21, Try.ntmps21
          go_wp2_with (go_at_call 44; refine (HC.out _).mono ?_; rintro e w1 hp; rw [HT.out] at hp; obtain ⟨pa, pp, pl, cap, rfl, hb1, htr⟩ := hp.some; clear hp; obtain ⟨b, A, hpa, hpp, hpl, hlc, hcm, hp0, hA, hB, hps⟩ := htr.node_inv; clear htr; subst hpa; subst hpp; rw [HLQ.out] at hpl hlc hA hB; subst hpl; have HA := hid hA; have HB := hid hB; have HPS := hid hps; clear hA hB hps hp0)
          have s1 := hb1.size
          have hmc : cap ≤ 9223372036854775807 := by unfold maxLen at hcm; omega
          go_loopw [6, 7] (fun v u wr => ∃ (j c : Nat) (g : Option Addr), j ≤ n ∧ u = .int .i64 ((j : Int) + 1) ∧ v = .slice g j c ∧ wr.ownsRow (w1.heap.size + 1) 9 1 (.slice g j c) j ((ks.take j).map fun t => Value.string t.text) ∧ Below (w1.heap.size + 1) (w1.alloc (.cells #[.string ByteArray.empty, .slice (some ⟨b, 0, none⟩) (n + 1) cap] 56)) wr) (fun _ u _ => n + 1 - (intOf u).toNat)
          case atStart => exact ⟨0, 0, _, Nat.zero_le _, rfl, rfl, own_zero (by simp) (by omega), (Below.refl _ _).alloc (by simp) _⟩
          case round =>
            obtain ⟨j, c, g, hj, rfl, rfl, hown, hbel⟩ := hrel
            have HOWN := hid hown
            have hz := hbel.size
            simp at hz
            clear hown
            have kb : Kept w1 wr := ((Kept.refl w1).alloc (Nat.le_refl _) _).below hbel (by omega)
            have e1 := cells_of_pair (block_below (heap_new w1 (.cells #[.string ByteArray.empty, .slice (some ⟨b, 0, none⟩) (n + 1) cap] 56) w1.heap.size rfl) hbel (by omega))
            by_cases hlt : j < n
            · have ca := kb.cell (HA.out (j + 1) (by omega))
              have cb := kb.cell (HB.out (j + 1) (by omega))
              obtain ⟨p, hp⟩ : ∃ p, qs[j]? = some p := ⟨_, List.getElem?_eq_getElem (by rw [← HN.out]; exact hlt)⟩
              obtain ⟨tp, htp, hpt⟩ := HG.out j p hp
              have hqp : (q :: qs)[j + 1]? = some p := by simpa using hp
              obtain ⟨x, hx⟩ : ∃ x, p.txt = x := ⟨_, rfl⟩
              have HX := hid hx
              have HXT := hid (show tp.text = x by rw [← txt_ty hpt, hx])
              have HC1 := hid (l1Text_any (HPS.out (j + 1) p hqp) (HWL.out _ _ hqp).1 (HWL.out _ _ hqp).2 wr kb (by omega))
              have HTP := hid htp
              obtain ⟨i0, hi0, hz0, hz1, hz2⟩ := info_parts Try.infoStr
              clear hp htp hpt hqp hx kb
              go_wp2_with (first | (at_builtin; refine wpList_append_at _ rfl (.tmp 24) (.tmp 31) 25 rfl (w1.heap.size + 1) 9 i0 (.string ByteArray.empty) 1 16 Try.underlying25 hi0 hz0 hz1 hz2 rfl (by decide) (.slice g j c) j _ rfl ((ownsRow_under HOWN.out hb2).alloc _) ⟨w2.heap.size, 0, none⟩ 1 1 [.string x] rfl rfl (cells_new1 _ _ _ _ rfl) (by intro u hu; simp at hu; subst hu; rfl) (by decide) (by unfold maxLen; omega) (by omega) (by have := hb2.size; simp; omega) ?_; intro v' w3 hown2 hg2 hw2 hv2; obtain ⟨g2, kc2, rfl⟩ := hv2; have HG2 := hid hg2; have HO := hid hown2; clear hg2 hown2 hw2) | (go_at_call 47; refine HC1.out.mono ?_; rintro e w2 ⟨he2, hb2⟩; rw [HX.out] at he2; subst he2))
              go_roundw
              case rel =>
                refine ⟨j + 1, kc2, some ⟨g2, 0, none⟩, by omega, by go_num, rfl, ?_, ?_⟩
                · rw [List.take_add_one, HTP.out, List.map_append]; simp only [Option.toList_some, List.map_cons, List.map_nil]; rw [HXT.out]; exact HO.out
                · have hlo := HOWN.out.lt
                  have s2 := hb2.size
                  exact ((hbel.trans (hb2.mono (by omega))).alloc (by omega) _).grown HG2.out (by simp; omega) (fun k e => (hlo k e).1)
              case measure => simp [intOf]; omega
            · have hjn : j = n := by omega
              have HJN := hid hjn
              clear hjn kb
              go_wp2_with fail
              go_ret2
              have hfin := HOWN.out
              rw [HJN.out, List.take_of_length_le (by rw [HKL.out]; exact Nat.le_refl _)] at hfin
              rw [← HKL.out] at hfin
              exact kidsPost_some HKD.out (by rw [HKL.out, HJN.out]) (by omega) (w1 := w1) (own_base hfin (by omega)) ((hb1.alloc s1 _).trans (hbel.mono (by omega)))
end Go.Proofs.Ytknjpdbdchnpeaa
