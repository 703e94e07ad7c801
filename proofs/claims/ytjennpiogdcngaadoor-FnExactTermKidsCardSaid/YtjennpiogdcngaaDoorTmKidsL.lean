/- TermKids: the model's walk and the law. -/
import Derived.Test.YtjennpiogdcngaaDoorTmKids
namespace Go.Proofs.YtjennpiogdcngaaDoor
open Go.RowKit

set_option maxRecDepth 100000 in
set_option maxHeartbeats 2000000 in
theorem specTermKids_any (s : ByteArray) (hs : s.size ≤ 2000000) (w : World) : Calls Tryd.prog 16 #[.string s] w (ListPost (kidsOf s) w) := by
  have HC := hid (fun W => l2Term_any s hs W)
  cases ht : termTree s with
  | none =>
    rw [kidsOf_none (termTree_none ht)]
    have HT := hid ht
    clear ht
    go_enter Tryd.func16, Tryd.ntmps16
    go_wp2_with (go_at_call 35; refine (HC.out _).mono ?_; rintro e w1 hp; rw [HT.out] at hp; obtain ⟨pa, pp, pl, pc, rfl, hpl, hb1⟩ := hp.none; clear hp; have HO := hid (own_empty (w1.alloc (.cells #[.string pa, .slice pp pl pc] 38)) w.heap.size (by have := hb1.size; simp; omega)))
    refine wp_loop_rounds 1 ?_
    rw [rounds_succ]
    by_cases h1 : (1 : Int) < (pl : Int)
    all_goals
      go_wp2_with fail
      go_ret2
      have s1 := hb1.size
      exact ⟨⟨some ⟨w1.heap.size + 1, 0, none⟩, 0, rfl, by simpa using HO.out⟩, (hb1.alloc s1 _).alloc (by simp; omega) _⟩
  | some t =>
    obtain ⟨hpt, hso, hsz, m, hm, htm⟩ := termTree_some ht
    rw [kidsOf_some hm, tm_ktx t [] m htm]
    cases t with
    | atom x =>
      have HT := hid ht
      clear ht hpt hso hsz hm htm
      go_enter Tryd.func16, Tryd.ntmps16
      go_wp2_with (go_at_call 35; refine (HC.out _).mono ?_; rintro e w1 hp; rw [HT.out] at hp; obtain ⟨pa, pp, pl, pc, rfl, hb1, htr⟩ := hp.some; clear hp; obtain ⟨rfl, rfl, rfl, rfl, _⟩ := htr.atom_inv; clear htr; have HO := hid (own_empty (w1.alloc (.cells #[.string pa, .slice none 0 0] 38)) w.heap.size (by have := hb1.size; simp; omega)))
      refine wp_loop_rounds 1 ?_
      rw [rounds_succ]
      go_wp2_with fail
      go_ret2
      have s1 := hb1.size
      rw [Tree.ktx]
      exact ⟨⟨some ⟨w1.heap.size + 1, 0, none⟩, 0, rfl, by simpa using HO.out⟩, (hb1.alloc s1 _).alloc (by simp; omega) _⟩
    | node ps =>
      obtain ⟨q, qs, rfl⟩ : ∃ q qs, ps = q :: qs := by
        cases ps with
        | nil => rw [Tree.tm] at htm; simp at htm
        | cons q qs => exact ⟨q, qs, rfl⟩
      have hsm := parse_small hpt
      have hwt := parse_wt hpt
      obtain ⟨_, hsl, _⟩ := wf_node hso
      have h4 := shape_four q.text.toList
      have HWL := hid (fun (i : Nat) (p : Tree) (hp : (q :: qs)[i]? = some p) => (show p.write.length ≤ 12000 ∧ p.wt ≤ 12000 from by
        have h1 := join_part (q :: qs) i p hp
        have h2 := wt_part (q :: qs) i p hp
        rw [write_node] at hsm
        rw [Tree.wt] at hwt
        simp at hsm
        omega))
      have HI := hid (fun b n cap i a c W h0 hn hc => l2Inner_any q b n cap i a c W h0 hn hc)
      rw [Tree.ktx]
      have HL4 := hid (ktxs_length (shape q.text.toList) qs)
      obtain ⟨cs, hcs⟩ : ∃ cs, shape q.text.toList = cs := ⟨_, rfl⟩
      rw [hcs] at hsl h4 HI HL4 ⊢
      obtain ⟨R, hR⟩ : ∃ R, Tree.ktxs cs qs = R := ⟨_, rfl⟩
      rw [hR]
      obtain ⟨n, hn⟩ : ∃ n, qs.length = n := ⟨_, rfl⟩
      have HN := hid hn
      have HSL := hid (hsl.trans hn)
      have hn4 : n ≤ 4 := by omega
      have HR := hid hR
      have HT := hid ht
      clear ht hpt hso hsz hm htm hsm hwt hsl h4 hcs hR hn
      obtain ⟨i0, hi0, hz0, hz1, hz2⟩ := info_parts Tryd.infoStr
      go_enter Tryd.func16, Tryd.ntmps16
      go_wp2_with (go_at_call 35; refine (HC.out _).mono ?_; rintro e w1 hp; rw [HT.out] at hp; obtain ⟨pa, pp, pl, cap, rfl, hb1, htr⟩ := hp.some; clear hp; go_loud (obtain ⟨b, A, rfl, rfl, hpl, _, _, _, hA, hB, hps⟩ := htr.node_inv; rw [List.length_cons, HN.out] at hpl hA hB; have hN1 : n < pl := (by omega); have hN2 : pl ≤ n + 1 := (by omega); clear hpl; obtain ⟨W2, hW2⟩ : ∃ W2, W2 = (w1.alloc (.cells #[.string ByteArray.empty, .slice (some ⟨b, 0, none⟩) pl cap] 38)).alloc (.cells #[] 9) := ⟨_, rfl⟩; have hbw : Below w1.heap.size w1 W2 := (by rw [hW2]; exact ((Below.refl _ _).alloc (Nat.le_refl _) _).alloc (by simp) _); have hsW : W2.heap.size = w1.heap.size + 2 := (by rw [hW2]; simp); have ho := own_empty (w1.alloc (.cells #[.string ByteArray.empty, .slice (some ⟨b, 0, none⟩) pl cap] 38)) (w1.heap.size + 1) (by simp); rw [← hW2] at ho; have hbx := heap_new w1 (.cells #[.string ByteArray.empty, .slice (some ⟨b, 0, none⟩) pl cap] 38) w1.heap.size rfl; have hbx2 := (heap_alloc_old (w1.alloc (.cells #[.string ByteArray.empty, .slice (some ⟨b, 0, none⟩) pl cap] 38)) (.cells #[] 9) (r := w1.heap.size) (by simp)).trans hbx; rw [← hW2] at hbx2; have HW := hid hW2; have HBX := hid hbx2; have HBW := hid hbw; have HO := hid ho; have HA := hid hA; have HB := hid hB; have HPS := hid hps; have HB1 := hid hb1; have hs1 := hb1.size; clear hW2 hbw ho hbx hbx2 hA hB hps htr hb1))
      rw [← HW.out]
      go_loopw [6, 7] (fun v u wr => ∃ (i m c : Nat) (q : Option Addr) (L1 : List ByteArray), i ≤ n ∧ m ≤ i ∧ u = .int .i64 ((i : Int) + 1) ∧ v = .slice q m c ∧ wr.ownsRow (w1.heap.size + 1) 9 1 (.slice q m c) m (L1.map Value.string) ∧ Below (w1.heap.size + 1) W2 wr ∧
        Hid (L1.length = m ∧ L1 ++ Tree.ktxs (cs.drop i) (qs.drop i) = R)) (fun _ u _ => pl - (intOf u).toNat)
      case atStart => exact ⟨0, 0, 0, some ⟨w1.heap.size + 1, 0, none⟩, [], Nat.zero_le _, Nat.le_refl _, rfl, rfl, by simpa using HO.out, Below.refl _ _, hid ⟨rfl, by simpa using HR.out⟩⟩
      case round =>
        obtain ⟨i, m2, c, q1, L1, hi, hmi, rfl, rfl, hown, hbel, hL⟩ := hrel
        have hz := hbel.size
        have kc2 := cells_of_pair ((hbel.block w1.heap.size (by omega)).trans HBX.out)
        have hbw1 := HBW.out.trans (hbel.mono (by omega))
        have kw : Kept w1 wr := Kept.of_below hbw1 (Nat.le_refl _)
        have hwr := hbw1.size
        have HOWN := hid hown
        have HBEL := hid hbel
        have KW := hid kw
        clear hown hbel hbw1
        by_cases hlt : i < n
        · obtain ⟨p, hp⟩ : ∃ p, qs[i]? = some p := ⟨_, List.getElem?_eq_getElem (by rw [HN.out]; exact hlt)⟩
          obtain ⟨d, hcc⟩ : ∃ d, cs[i]? = some d := ⟨_, List.getElem?_eq_getElem (by rw [HSL.out]; exact hlt)⟩
          have d2 : (i : Int) + 1 < (pl : Int) := by omega
          have d2' : i + 1 < pl := by omega
          have hst := ktxs_step hcc hp
          have CI := hid (HI.out b pl cap i ByteArray.empty d wr (kw.cell (by have := HA.out 0 (by omega); rw [((HPS.out 0 q rfl).text)] at this; simpa using this)) (by omega) hcc)
          have CA := hid (fun W (hk : Kept wr W) => hk.cell (kw.cell (HA.out (i + 1) (by omega))))
          have CB2 := hid (fun W (hk : Kept wr W) => hk.cell (kw.cell (HB.out (i + 1) (by omega))))
          have KBX := hid (fun W (hk : Kept wr W) => (show W.cell? ⟨w1.heap.size, 0, none⟩ = some (.string ByteArray.empty) ∧ W.cell? ⟨w1.heap.size, 1, none⟩ = some (.slice (some ⟨b, 0, none⟩) pl cap) from ⟨hk.cell kc2.1, hk.cell kc2.2.1⟩))
          cases hK : d.isK with
          | false =>
            rw [hK] at CI hst
            have HL2 := hid (show L1.length = m2 ∧ L1 ++ Tree.ktxs (cs.drop (i + 1)) (qs.drop (i + 1)) = R by
              have := hL.out; rw [hst] at this; simpa using this)
            clear hst hL hp hcc kw hK
            go_wp2_with (go_at_call 40; refine CI.out.mono ?_; rintro e w3 ⟨rfl, hb3⟩)
            go_roundw
            case rel => exact ⟨i + 1, m2, c, q1, L1, by omega, by omega, by go_num, rfl, ownsRow_under HOWN.out hb3, HBEL.out.trans (hb3.mono (by omega)), HL2⟩
            case measure => simp [intOf]; omega
          | true =>
            rw [hK] at CI hst
            have hqp : (q :: qs)[i + 1]? = some p := by simpa using hp
            obtain ⟨X, hX⟩ : ∃ X, p.txt = X := ⟨_, rfl⟩
            have HC1 := hid (fun W (hk : Kept wr W) (hs : wr.heap.size ≤ W.heap.size) => l1Text_any (HPS.out (i + 1) p hqp) (HWL.out _ _ hqp).1 (HWL.out _ _ hqp).2 W (kw.trans hk hwr) (by omega))
            have HL2 := hid (show (L1 ++ [X]).length = m2 + 1 ∧ (L1 ++ [X]) ++ Tree.ktxs (cs.drop (i + 1)) (qs.drop (i + 1)) = R by
              have := hL.out; rw [hst, hX] at this; simpa using this)
            rw [hX] at HC1
            clear hst hL hp hcc kw hK hqp hX
            have ca := CA.out wr (Kept.refl _)
            have cb := CB2.out wr (Kept.refl _)
            go_wp2_with (first
              | (at_builtin; have s4 := hb4.size; refine wpList_append_at _ rfl _ _ 24 rfl (w1.heap.size + 1) 9 i0 (.string ByteArray.empty) 1 16 Tryd.underlying24 hi0 hz0 hz1 hz2 rfl (by decide) (.slice q1 m2 c) m2 _ rfl ((ownsRow_under HOWN.out (HB3.out.trans (hb4.mono s3))).alloc _) ⟨w4.heap.size, 0, none⟩ 1 1 [.string X] rfl rfl (cells_new1 _ _ _ _ rfl) (by intro u hu; simp at hu; subst hu; rfl) (by decide) (by unfold maxLen; omega) (by omega) (by simp; omega) ?_; intro v' w6 hown2 hg2 hw2 hv2; obtain ⟨g2, kc3, rfl⟩ := hv2; have HG := hid hg2; have HO6 := hid hown2; clear hg2 hown2 hw2)
              | (go_at_call 40; refine CI.out.mono ?_; rintro e w3 ⟨rfl, hb3⟩; have s3 := hb3.size; have K3 := hid (Kept.of_below hb3 (Nat.le_refl _)); have HB3 := hid hb3; have kb3 := KBX.out _ K3.out; have ca3 := CA.out _ K3.out; have cb3 := CB2.out _ K3.out; clear hb3)
              | (go_at_call 41; refine (HC1.out _ K3.out s3).mono ?_; rintro e w4 ⟨rfl, hb4⟩))
            go_roundw
            case rel =>
              have s4 := hb4.size
              refine ⟨i + 1, m2 + 1, kc3, some ⟨g2, 0, none⟩, L1 ++ [X], by omega, by omega, by go_num, rfl, by rw [List.map_append]; exact HO6.out, ?_, HL2⟩
              exact ((HBEL.out.trans ((HB3.out.trans (hb4.mono s3)).mono (by omega))).alloc (by omega) _).grown HG.out (by simp; omega) (fun k e => (HOWN.out.lt k e).1)
            case measure => simp [intOf]; omega
        · have he : R = L1 := by
            have := hL.out.2
            rw [List.drop_of_length_le (l := cs) (by rw [HSL.out]; omega)] at this
            simpa [Tree.ktxs] using this.symm
          have HE := hid he
          have HLL1 := hid hL.out.1
          clear he hL kw
          go_wp2_with fail
          go_ret2
          refine ListPost.mk' (l := R) (b := true) rfl rfl ⟨⟨q1, c, ?_, ?_⟩, ?_⟩
          · rw [HE.out, HLL1.out]; rfl
          · rw [HE.out, HLL1.out]; exact own_base HOWN.out (by omega)
          · exact HB1.out.trans ((HBW.out.trans (HBEL.out.mono (by omega))).mono hs1)

set_option maxRecDepth 100000 in
set_option maxHeartbeats 4000000 in
theorem lawTermKids (s : ByteArray) (hs : s.size ≤ 9223372036854775807) (w : World) : Calls Tryd.prog 5 #[.string s] w fun e w' => e = .returned (.bool true) ∧ Below w.heap.size w w' := by
  by_cases h : s.size ≤ 1048576
  · have HA := hid (fun W => specTermKids_any s (by omega) W)
    have HB := hid (fun W => implTermKids_any s (by omega) W)
    have hk2 := kids_bound s
    obtain ⟨d, hd⟩ : ∃ d, (kidsOf s).isSome = d := ⟨_, rfl⟩
    obtain ⟨L, hL⟩ : ∃ L, (kidsOf s).getD [] = L := ⟨_, rfl⟩
    obtain ⟨n, hn⟩ : ∃ n, L.length = n := ⟨_, rfl⟩
    rw [hL, hn] at hk2
    have HP : Hid (∀ W e W', ListPost (kidsOf s) W e W' → (∃ q c, e = .returned (.tuple #[.slice q n c, .bool d]) ∧ W'.ownsRow W.heap.size 9 1 (.slice q n c) n (L.map Value.string)) ∧ Below W.heap.size W W') := by
      intro W e W' hp
      unfold ListPost at hp
      rw [hL, hn, hd] at hp
      exact hp
    have HE : Hid (∀ (p q : Option Addr) (c c' : Nat) (W : World), Vals W p (L.map .string) → Vals W q (L.map .string) → Calls Tryd.prog 18 #[.slice p n c, .slice q n c'] W fun e w' => e = .returned (.bool true) ∧ Below W.heap.size W w') :=
      fun p q c c' W hp hq => eqStrings_same L p q n c c' W hn (by omega) hp hq
    clear hd hL hn
    go_enter Tryd.func5, Tryd.ntmps5
    have hq : (d != d) = false := by simp
    go_wp2_with (first
      | (go_at_call 20; have _ := V6; have s8 := hb7.size; refine (heldStrings_own q2 n c2 1 _ (by decide) (by omega) (vals_below V4.out ((hb5.trans (hb6.mono s5)).trans (hb7.mono (by omega))) hu4)).mono ?_; rintro e w8 ⟨rfl, hb8⟩)
      | (go_at_call 18; have _ := V6; refine (HE.out _ _ _ _ _ V6.out V1c.out).mono ?_; rintro e w7 ⟨rfl, hb7⟩)
      | (go_at_call 17; have _ := V4; refine (HB.out _).mono ?_; rintro e w6 hp; obtain ⟨⟨q6, c6, rfl, ho6⟩, hb6⟩ := HP.out _ _ _ hp; clear hp; have s6 := hb6.size; have V6 := hid (vals_str ho6); clear ho6; have V1c := hid (vals_below V1.out (hb2.trans ((hb3.mono s2).trans (hb4.trans ((hb5.mono (by omega)).trans (hb6.mono (by omega)))))) U1.out))
      | (go_at_call 20; refine (heldStrings_own q2 n c2 1 _ (by decide) (by omega) V4.out).mono ?_; rintro e w5 ⟨rfl, hb5⟩; have s5 := hb5.size)
      | (go_at_call 18; refine (HE.out _ _ _ _ _ V2.out V1b.out).mono ?_; rintro e w3 ⟨rfl, hb3⟩; have s3 := hb3.size)
      | (go_at_call 17; refine (HB.out _).mono ?_; rintro e w2 hp; obtain ⟨⟨q2, c2, rfl, ho2⟩, hb2⟩ := HP.out _ _ _ hp; clear hp; have s2 := hb2.size; have V2 := hid (vals_str ho2); have O2 := hid ho2; clear ho2; have V1b := hid (vals_below V1.out hb2 U1.out))
      | (go_at_call 19; refine (mark_any (by omega) (ownsRow_under O2.out hb3) (by omega)).mono ?_; rintro e w4 ⟨rfl, hv4, hb4, hu4⟩; have s4 := hb4.size; have V4 := hid hv4; clear hv4)
      | (go_at_call 16; refine (HA.out _).mono ?_; rintro e w1 hp; obtain ⟨⟨q1, c1, rfl, ho1⟩, hb1⟩ := HP.out _ _ _ hp; clear hp; have s1 := hb1.size; have V1 := hid (vals_str ho1); have U1 := hid (own_under ho1); clear ho1))
    go_ret
    have s7 := hb7.size
    exact ⟨rfl, hb1.trans ((hb2.mono (by omega)).trans ((hb3.mono (by omega)).trans ((hb4.mono (by omega)).trans ((hb5.mono (by omega)).trans ((hb6.mono (by omega)).trans ((hb7.mono (by omega)).trans (hb8.mono (by omega))))))))⟩
  · have h2 : 1048576 < s.size := by omega
    clear h
    go_enter Tryd.func5, Tryd.ntmps5
    go_wp2
    go_ret
    exact ⟨rfl, Below.refl _ _⟩

end Go.Proofs.YtjennpiogdcngaaDoor
