/- Merged: StL. -/
import Derived.Deep.RegionWith
import Derived.Test.YtgogoekfidbpdaaDoorSQSStK
import Derived.Test.YtgogoekfidbpdaaDoorSQ9
namespace Go.Proofs.YtgogoekfidbpdaaDoor
open Go.RowKit

theorem Tryd.infoSty : (Tryd.prog.info? 48).map (fun i => (i.zero, i.size, i.bytes)) = some (some (.pointer none), 1, 8) := by kernel_rfl
/-- Types behind pointers. -/
structure TsIn (w : World) (A : Nat → Nat) (ts : List STy) (i : Nat) : Prop where
  len : i = ts.length
  small : ∀ t ∈ ts, t.n ≤ 12
  cells : ∀ j t, ts[j]? = some t → SIn w (fun _ => True) t (A j)
theorem tsIn_nil (w : World) (A : Nat → Nat) : TsIn w A [] 0 := ⟨rfl, by simp, by simp⟩
theorem TsIn.kept2 {w w' : World} {A : Nat → Nat} {ts : List STy} {i : Nat} (h : TsIn w A ts i) (hk : ∀ (s : STy) (a : Nat), SIn w (fun _ => True) s a → SIn w' (fun _ => True) s a) : TsIn w' A ts i :=
  ⟨h.len, h.small, fun j t hj => hk _ _ (h.cells j t hj)⟩
theorem tsIn_snoc {w : World} {A : Nat → Nat} {ts : List STy} {i a : Nat} {t : STy} (h : TsIn w A ts i) (ht : SIn w (fun _ => True) t a) (hn : t.n ≤ 12) : TsIn w (fun j => if j = i then a else A j) (ts ++ [t]) (i + 1) := by
  refine ⟨by simp [h.len], ?_, ?_⟩
  · intro u hu
    rcases List.mem_append.1 hu with hu | hu
    · exact h.small u hu
    · simp at hu; subst hu; exact hn
  · intro j u hj
    by_cases hji : j < ts.length
    · rw [List.getElem?_append_left hji] at hj
      have : (if j = i then a else A j) = A j := if_neg (by have := h.len; omega)
      simp only [this]; exact h.cells j u hj
    · have hj2 : j = ts.length := by
        have := (List.getElem?_eq_some_iff.1 hj).1
        simp at this; omega
      subst hj2
      simp at hj; subst hj
      have : (if ts.length = i then a else A ts.length) = a := if_pos h.len.symm
      simp only [this]; exact ht
theorem t7_dec {w w' : World} {s : STy} {a : Nat} {b : Bool} (hb : b = true) (h : Below w.heap.size w w') (hn : SIn w' (fun _ => True) s a) : T7Post (some s) w (.returned (.tuple #[.pointer (some ⟨a, 0, none⟩), .bool b])) w' := by subst hb; exact t7_some h hn
theorem t7_decn {w w' : World} {p : Option Addr} {b : Bool} (hb : b = false) (h : Below w.heap.size w w') : T7Post none w (.returned (.tuple #[.pointer p, .bool b])) w' := by subst hb; exact t7_none h
theorem inside_n {e : Sx} (ha : e.an) {env : List (ByteArray × STy)} (hn : ∀ x ∈ env, x.2.n ≤ 12) : ∀ x ∈ e.inside env, x.2.n ≤ 12 := by
  cases e <;> simp only [Sx.inside] <;> try exact hn
  rename_i y s d
  intro x hx
  rcases List.mem_cons.1 hx with rfl | hx
  · exact ha.1
  · exact hn x hx
theorem inside_lam {e : Sx} (h : (e.head.toList == [108, 97, 109]) = true) (env : List (ByteArray × STy)) : ∃ s, e.ty = some s ∧ e.inside env = (e.nm, s) :: env := by
  cases e <;> simp_all [Sx.inside, Sx.nm, Sx.ty, Sx.head, hName_l, hBit_l, hLam_l, hApp_l, hIf_l, hPair_l, hFst_l, hSnd_l, hGet_l, hPut_l, hFail_l]
theorem inside_not {e : Sx} (h : (e.head.toList == [108, 97, 109]) = false) (env : List (ByteArray × STy)) : e.inside env = env := by
  cases e <;> simp_all [Sx.inside, Sx.head, hName_l, hBit_l, hLam_l, hApp_l, hIf_l, hPair_l, hFst_l, hSnd_l, hGet_l, hPut_l, hFail_l]

set_option maxRecDepth 100000 in
set_option maxHeartbeats 8000000 in
theorem typeIn_any {w0 : World} {S : Nat → Prop} {e : Sx} {b : Nat} (h : XIn w0 S e b) : e.an → ∀ (env : List (ByteArray × STy)) (p : Option Addr) (w : World), Kept w0 w → w0.heap.size ≤ w.heap.size → (∀ x ∈ env, x.2.n ≤ 12) → EIn w env p →
    Calls Tryd.prog 40 #[.pointer (some ⟨b, 0, none⟩), .pointer p] w (T7Post (e.typ env) w) := by
  induction h with
  | mk e b tp kp kl kc A hS hb hty hkl hkc hkv hks ih =>
    intro han env p w hk hw hen he
    obtain ⟨tq, rfl⟩ := hty.one
    have hkl3 : kl ≤ 3 := by have := kids_3 e; omega
    have KC := hid (fun W (hbl : Kept w0 W) => (show W.cell? ⟨b, 0, none⟩ = some (.string e.head) ∧ W.cell? ⟨b, 1, none⟩ = some (.string e.atom) ∧ W.cell? ⟨b, 2, none⟩ = some (.string e.nm) ∧ W.cell? ⟨b, 3, none⟩ = some (.pointer tq) ∧ W.cell? ⟨b, 4, none⟩ = some (.slice kp kl kc) from by
      have c := cells_of_5 ((hbl b (lt_of_block hb)).trans hb)
      exact ⟨c.1, c.2.1, c.2.2.1, c.2.2.2.1, c.2.2.2.2.1⟩))
    have HIH := hid (fun i k hik env' p' W hkW hwW hen' he' => ih i k hik (an_kid han hik) env' p' W hkW hwW hen' he')
    have HRV := hid (fun i v (hv : (ptrs A kl)[i]? = some v) => (show ∃ g, kp = some ⟨g, 0, none⟩ ∧ w0.cell? ⟨g, i, none⟩ = some v from let ⟨g, hp, _, hc⟩ := hkv i v hv; ⟨g, hp, hc⟩))
    have HKL := hid hkl
    have HTFA := hid (fun (wr : World) (hkw : Kept w0 wr) (q : Option Addr) (c : Nat) (A2 : Nat → Nat) (ts : List STy) (hl : kl = ts.length) (hs : ∀ t ∈ ts, t.n ≤ 12) (hq : RIn wr (fun _ => True) q (ptrs A2 kl)) (ht : ∀ i t, ts[i]? = some t → SIn wr (fun _ => True) t (A2 i)) (hew : EIn wr env p) =>
      (show Calls Tryd.prog 54 #[.pointer (some ⟨b, 0, none⟩), .slice q kl c, .pointer p] wr (T7Post (e.tfrom ts env) wr) from
        let k := KC.out wr hkw
        typeFrom_any k.1 k.2.1 k.2.2.2.1 (hty.keep (fun k _ hl => hkw k hl) (fun _ _ _ => trivial)) (by omega) hs hl hq ht hew))
    have HSM := hid (fun (ts : List STy) (hs : ∀ t ∈ ts, t.n ≤ 12) (s : STy) (hf : e.tfrom ts env = some s) => tfrom_n han hen hs hf)
    have HR := hid (typ_kids e env)
    obtain ⟨R, hR⟩ : ∃ R, e.typ env = R := ⟨_, rfl⟩
    rw [hR] at HR ⊢
    have HEN0 := inside_n han hen
    have HL := hid (fun h => inside_lam (e := e) h env)
    have HF := hid (fun h => inside_not (e := e) h env)
    have HEW := hid he
    have HTY := hid hty
    obtain ⟨i0, hi0, hz0, hz1, hz2⟩ := info_parts Tryd.infoSty
    obtain ⟨k0, k1, k2, k3, k4⟩ := KC.out w hk
    obtain ⟨hd, hhd⟩ : ∃ hd, e.head = hd := ⟨_, rfl⟩
    obtain ⟨nm, hnm⟩ : ∃ x, e.nm = x := ⟨_, rfl⟩
    obtain ⟨ks, hkse⟩ : ∃ x, e.kids = x := ⟨_, rfl⟩
    rw [hhd] at HL HF KC k0
    rw [hnm] at HL KC k2
    rw [hkse] at HR HIH HKL
    have HKK := hid hk
    clear hb hty hkl hkv hks ih hR hhd hnm hkse he hk
    cases e2 : hd.toList == [108, 97, 109] with
    | false =>
      have HI := HF.out e2
      obtain ⟨env', hE'⟩ : ∃ env', e.inside env = env' := ⟨_, rfl⟩
      rw [hE'] at HI HR HEN0
      have HEN := hid HEN0
      have HE1 := hid (show EIn w env' p by rw [HI]; exact HEW.out)
      have HBW := hid (Below.refl w.heap.size w)
      have HK1 := HKK
      have hw1 : w0.heap.size ≤ w.heap.size := hw
      clear HL HF HI HEN0 hE'
      go_enter Tryd.func40, Tryd.ntmps40
      go_wp2_with fail
      go_loopw [7, 35] (fun v u wr => ∃ (i c : Nat) (q : Option Addr) (A2 : Nat → Nat) (ts : List STy), i ≤ kl ∧ u = .int .i64 (i : Int) ∧ v = .slice q i c ∧ wr.ownsRow w.heap.size 48 1 (.slice q i c) i (ptrs A2 i) ∧ Below w.heap.size w wr ∧ Hid (TsIn wr A2 ts i ∧ EIn wr env' p ∧ kidT ks env' = (kidT (ks.drop i) env').map (ts ++ ·))) (fun _ u _ => kl - (intOf u).toNat)
      case atStart => exact ⟨0, 0, none, A, [], Nat.zero_le _, rfl, rfl, World.ownsRow_nil _ _ _ _, Below.refl _ _, hid ⟨tsIn_nil _ _, HE1.out, by rw [List.drop_zero]; cases kidT ks env' <;> rfl⟩⟩
      case round =>
        obtain ⟨i, c, q, A2, ts, hi, rfl, rfl, hown, hbel, hrel⟩ := hrel
        have hz := hbel.size
        have hkw := HK1.out.below hbel hw1
        have hwr : w0.heap.size ≤ wr.heap.size := by omega
        obtain ⟨c0, c1, c2, c3, c4⟩ := KC.out wr hkw
        have HTS := hid hrel.out.1
        have HE2 := hid hrel.out.2.1
        have HKT := hid hrel.out.2.2
        have HOWN := hid hown
        have HBE := hid hbel
        by_cases hlt : i < kl
        · obtain ⟨k, hik⟩ : ∃ k, ks[i]? = some k := ⟨_, List.getElem?_eq_getElem (by rw [HKL.out]; exact hlt)⟩
          obtain ⟨g, rfl, hc⟩ := HRV.out i _ (ptrs_get A hlt)
          have hc' := hkw.cell hc
          have HC := hid (HIH.out i k hik env' p wr hkw hwr HEN.out HE2.out)
          have hst := kidT_step hik env'
          have hnK := fun t (ht : k.typ env' = some t) => typ_n ht
          obtain ⟨K, hK⟩ : ∃ K, k.typ env' = K := ⟨_, rfl⟩
          rw [hK] at HC hst hnK
          cases K with
          | none =>
            have HRN := hid (HR.out.trans (by rw [HKT.out, hst]))
            clear hst hik hK hc hown hbel hrel hnK
            go_wp2_with (go_at_call 40; refine HC.out.mono ?_; rintro r w1' hp; obtain ⟨p1, rfl, hb1⟩ := hp.none; clear hp)
            go_ret2
            rw [HRN.out]
            exact t7_none (HBW.out.trans ((HBE.out.mono (by omega)).trans (hb1.mono (by omega))))
          | some t =>
            have HN12 := hid (hnK t rfl)
            have HKT2 := hid (show kidT ks env' = (kidT (ks.drop (i + 1)) env').map ((ts ++ [t]) ++ ·) by
              rw [HKT.out, hst]
              cases kidT (ks.drop (i + 1)) env' <;> simp)
            clear hst hik hK hc hown hbel hrel hnK
            go_wp2_with (first | (at_builtin; refine wpList_append_at _ rfl (.tmp 47) (.tmp 49) 91 rfl w.heap.size 48 i0 (.pointer none) 1 8 Tryd.underlying91 hi0 hz0 hz1 hz2 rfl (by decide) (.slice q i c) i _ rfl (HO1.out.alloc _) ⟨w1'.heap.size, 0, none⟩ 1 1 [.pointer (some ⟨a1, 0, none⟩)] rfl rfl (cells_new1 _ _ _ _ rfl) (by intro u hu; simp at hu; subst hu; rfl) (by decide) (by unfold maxLen; omega) (by omega) (by simp; omega) ?_; intro v' w2 hown2 hg2 hw2 hv2; obtain ⟨g2, kc2, rfl⟩ := hv2; have HG := hid hg2; have HO := hid hown2; clear hg2 hown2 hw2) | (go_at_call 40; refine HC.out.mono ?_; rintro r w1' hp; obtain ⟨a1, rfl, hb1, hn1⟩ := hp.some; have HT1 := hid hn1; have HB1 := hid hb1; have HO1 := hid (ownsRow_under HOWN.out hb1); have s1 := hb1.size; clear hp hb1 hn1))
            go_roundw
            case rel =>
              have hal : Kept w1' (w1'.alloc (.cells #[.pointer (some ⟨a1, 0, none⟩)] 48)) := (Kept.refl w1').alloc (Nat.le_refl _) _
              have hoa := HO1.out.alloc (.cells #[.pointer (some ⟨a1, 0, none⟩)] 48)
              have hkb := Kept.of_below HB1.out (Nat.le_refl _)
              refine ⟨i + 1, kc2, some ⟨g2, 0, none⟩, fun j => if j = i then a1 else A2 j, ts ++ [t], by omega, by go_num, rfl, by rw [ptrs_snoc]; exact HO.out, ((HBE.out.trans (HB1.out.mono (by omega))).alloc (by omega) _).grown HG.out (by simp; omega) (fun k e => (HOWN.out.lt k e).1), hid ⟨?_, ?_, HKT2.out⟩⟩
              · exact tsIn_snoc (HTS.out.kept2 (fun s a h => ((h.kept hkb).kept hal).grown hoa HG.out)) ((HT1.out.kept hal).grown hoa HG.out) HN12.out
              · exact ((HE2.out.kept hkb).kept hal).grown hoa HG.out
            case measure => simp [intOf]; omega
        · have hin : i = kl := by omega
          subst hin
          have hfin : kidT ks env' = some ts := by
            rw [HKT.out, List.drop_of_length_le (by rw [HKL.out]; omega)]
            simp [kidT]
          have HRT := hid (show R = lim12 (e.tfrom ts env) from HR.out.trans (by rw [hfin]))
          have hkk := Kept.of_below hbel (Nat.le_refl _)
          have HTF := hid (HTFA.out wr hkw q c A2 ts HTS.out.len (fun t ht => HTS.out.small t ht) (own_row hown) HTS.out.cells ((HEW.out.kept (Kept.of_below HBW.out (Nat.le_refl _))).kept hkk))
          have hsm := HSM.out ts (fun t ht => HTS.out.small t ht)
          obtain ⟨O, hO⟩ : ∃ O, e.tfrom ts env = O := ⟨_, rfl⟩
          rw [hO] at HTF HRT hsm
          have HBZ := hid (HBW.out.trans (hbel.mono (by omega)))
          cases O with
          | none =>
            have HRN := hid (show R = none from HRT.out)
            clear hfin hown hbel hrel hO hsm hkk
            go_wp2_with (go_at_call 54; refine HTF.out.mono ?_; rintro r w1' hp; obtain ⟨p1, rfl, hb1⟩ := hp.none; clear hp)
            go_ret2
            rw [HRN.out]
            exact t7_none (HBZ.out.trans (hb1.mono (by omega)))
          | some s =>
            have hs25 := hsm s rfl
            by_cases h12 : s.n ≤ 12
            · have HRN := hid (show R = some s from HRT.out.trans (lim12_small h12))
              clear hfin hown hbel hrel hO hsm hkk
              go_wp2_with (first | (have _ := HT1; go_at_call 55; refine (atoms7_any HT1.out (by omega) _ (Kept.refl _)).mono ?_; rintro r w2' ⟨rfl, k2, rfl⟩) | (go_at_call 54; refine HTF.out.mono ?_; rintro r w1' hp; obtain ⟨a1, rfl, hb1, hn1⟩ := hp.some; have HT1 := hid hn1; have HB1 := hid hb1; clear hp hb1 hn1))
              go_ret2
              rw [HRN.out]
              exact t7_dec (decide_eq_true (by omega)) (below_drewN (HBZ.out.trans (HB1.out.mono (by omega))) _) (HT1.out.drewN _)
            · have HRN := hid (show R = none from HRT.out.trans (by rw [lim12, if_neg h12]))
              have h13 : 12 < s.n := by omega
              clear hfin hown hbel hrel hO hsm hkk h12
              go_wp2_with (first | (have _ := HT1; go_at_call 55; refine (atoms7_any HT1.out (by omega) _ (Kept.refl _)).mono ?_; rintro r w2' ⟨rfl, k2, rfl⟩) | (go_at_call 54; refine HTF.out.mono ?_; rintro r w1' hp; obtain ⟨a1, rfl, hb1, hn1⟩ := hp.some; have HT1 := hid hn1; have HB1 := hid hb1; clear hp hb1 hn1))
              go_ret2
              rw [HRN.out]
              exact t7_decn (decide_eq_false (by omega)) (below_drewN (HBZ.out.trans (HB1.out.mono (by omega))) _)
    | true =>
      obtain ⟨s, hs, HI⟩ := HL.out e2
      obtain ⟨env', hE'⟩ : ∃ env', e.inside env = env' := ⟨_, rfl⟩
      rw [hE'] at HI HR HEN0
      have HEN := hid HEN0
      have hty2 := HTY.out
      rw [hs] at hty2
      obtain ⟨a, ea, hsin⟩ := hty2
      obtain rfl : tq = some ⟨a, 0, none⟩ := by simpa using ea
      have HW := hid (with_any env p nm s a w.drew HEW.out.drew ((hsin.keep (fun k _ hl => HKK.out k hl) (fun _ _ _ => trivial)).drew))
      rw [← HI] at HW
      clear HL HF HI HEN0 hE' ea hsin
      go_enter Tryd.func40, Tryd.ntmps40
      go_wp2_with fail
      go_region_with (go_at_call 53; refine HW.out.mono ?_; rintro r w1 ⟨pin, rfl, he1, hb1⟩; have hbw := below_nx hb1 ((Below.refl w.heap.size w).drew); have HE1 := hid he1; have HBW := hid hbw; have HK1 := hid (HKK.out.below hbw hw); have hw1 : w0.heap.size ≤ w1.heap.size := (by have := hbw.size; omega); have sw1 := hbw.size; obtain ⟨m0, m1, m2, m3, m4⟩ := KC.out w1 HK1.out; clear hbw hb1 he1)
      all_goals
        go_wp2_with fail
        go_loopw [7, 35] (fun v u wr => ∃ (i c : Nat) (q : Option Addr) (A2 : Nat → Nat) (ts : List STy), i ≤ kl ∧ u = .int .i64 (i : Int) ∧ v = .slice q i c ∧ wr.ownsRow w1.heap.size 48 1 (.slice q i c) i (ptrs A2 i) ∧ Below w1.heap.size w1 wr ∧ Hid (TsIn wr A2 ts i ∧ EIn wr env' pin ∧ kidT ks env' = (kidT (ks.drop i) env').map (ts ++ ·))) (fun _ u _ => kl - (intOf u).toNat)
        case atStart => exact ⟨0, 0, none, A, [], Nat.zero_le _, rfl, rfl, World.ownsRow_nil _ _ _ _, Below.refl _ _, hid ⟨tsIn_nil _ _, HE1.out, by rw [List.drop_zero]; cases kidT ks env' <;> rfl⟩⟩
        case round =>
          obtain ⟨i, c, q, A2, ts, hi, rfl, rfl, hown, hbel, hrel⟩ := hrel
          have hz := hbel.size
          have hkw := HK1.out.below hbel hw1
          have hwr : w0.heap.size ≤ wr.heap.size := by omega
          obtain ⟨c0, c1, c2, c3, c4⟩ := KC.out wr hkw
          have HTS := hid hrel.out.1
          have HE2 := hid hrel.out.2.1
          have HKT := hid hrel.out.2.2
          have HOWN := hid hown
          have HBE := hid hbel
          by_cases hlt : i < kl
          · obtain ⟨k, hik⟩ : ∃ k, ks[i]? = some k := ⟨_, List.getElem?_eq_getElem (by rw [HKL.out]; exact hlt)⟩
            obtain ⟨g, rfl, hc⟩ := HRV.out i _ (ptrs_get A hlt)
            have hc' := hkw.cell hc
            have HC := hid (HIH.out i k hik env' pin wr hkw hwr HEN.out HE2.out)
            have hst := kidT_step hik env'
            have hnK := fun t (ht : k.typ env' = some t) => typ_n ht
            obtain ⟨K, hK⟩ : ∃ K, k.typ env' = K := ⟨_, rfl⟩
            rw [hK] at HC hst hnK
            cases K with
            | none =>
              have HRN := hid (HR.out.trans (by rw [HKT.out, hst]))
              clear hst hik hK hc hown hbel hrel hnK
              go_wp2_with (go_at_call 40; refine HC.out.mono ?_; rintro r w1' hp; obtain ⟨p1, rfl, hb1⟩ := hp.none; clear hp)
              go_ret2
              rw [HRN.out]
              exact t7_none (HBW.out.trans ((HBE.out.mono (by omega)).trans (hb1.mono (by omega))))
            | some t =>
              have HN12 := hid (hnK t rfl)
              have HKT2 := hid (show kidT ks env' = (kidT (ks.drop (i + 1)) env').map ((ts ++ [t]) ++ ·) by
                rw [HKT.out, hst]
                cases kidT (ks.drop (i + 1)) env' <;> simp)
              clear hst hik hK hc hown hbel hrel hnK
              go_wp2_with (first | (at_builtin; refine wpList_append_at _ rfl (.tmp 47) (.tmp 49) 91 rfl w1.heap.size 48 i0 (.pointer none) 1 8 Tryd.underlying91 hi0 hz0 hz1 hz2 rfl (by decide) (.slice q i c) i _ rfl (HO1.out.alloc _) ⟨w1'.heap.size, 0, none⟩ 1 1 [.pointer (some ⟨a1, 0, none⟩)] rfl rfl (cells_new1 _ _ _ _ rfl) (by intro u hu; simp at hu; subst hu; rfl) (by decide) (by unfold maxLen; omega) (by omega) (by simp; omega) ?_; intro v' w2 hown2 hg2 hw2 hv2; obtain ⟨g2, kc2, rfl⟩ := hv2; have HG := hid hg2; have HO := hid hown2; clear hg2 hown2 hw2) | (go_at_call 40; refine HC.out.mono ?_; rintro r w1' hp; obtain ⟨a1, rfl, hb1, hn1⟩ := hp.some; have HT1 := hid hn1; have HB1 := hid hb1; have HO1 := hid (ownsRow_under HOWN.out hb1); have s1 := hb1.size; clear hp hb1 hn1))
              go_roundw
              case rel =>
                have hal : Kept w1' (w1'.alloc (.cells #[.pointer (some ⟨a1, 0, none⟩)] 48)) := (Kept.refl w1').alloc (Nat.le_refl _) _
                have hoa := HO1.out.alloc (.cells #[.pointer (some ⟨a1, 0, none⟩)] 48)
                have hkb := Kept.of_below HB1.out (Nat.le_refl _)
                refine ⟨i + 1, kc2, some ⟨g2, 0, none⟩, fun j => if j = i then a1 else A2 j, ts ++ [t], by omega, by go_num, rfl, by rw [ptrs_snoc]; exact HO.out, ((HBE.out.trans (HB1.out.mono (by omega))).alloc (by omega) _).grown HG.out (by simp; omega) (fun k e => (HOWN.out.lt k e).1), hid ⟨?_, ?_, HKT2.out⟩⟩
                · exact tsIn_snoc (HTS.out.kept2 (fun s a h => ((h.kept hkb).kept hal).grown hoa HG.out)) ((HT1.out.kept hal).grown hoa HG.out) HN12.out
                · exact ((HE2.out.kept hkb).kept hal).grown hoa HG.out
              case measure => simp [intOf]; omega
          · have hin : i = kl := by omega
            subst hin
            have hfin : kidT ks env' = some ts := by
              rw [HKT.out, List.drop_of_length_le (by rw [HKL.out]; omega)]
              simp [kidT]
            have HRT := hid (show R = lim12 (e.tfrom ts env) from HR.out.trans (by rw [hfin]))
            have hkk := Kept.of_below hbel (Nat.le_refl _)
            have HTF := hid (HTFA.out wr hkw q c A2 ts HTS.out.len (fun t ht => HTS.out.small t ht) (own_row hown) HTS.out.cells ((HEW.out.kept (Kept.of_below HBW.out (Nat.le_refl _))).kept hkk))
            have hsm := HSM.out ts (fun t ht => HTS.out.small t ht)
            obtain ⟨O, hO⟩ : ∃ O, e.tfrom ts env = O := ⟨_, rfl⟩
            rw [hO] at HTF HRT hsm
            have HBZ := hid (HBW.out.trans (hbel.mono (by omega)))
            cases O with
            | none =>
              have HRN := hid (show R = none from HRT.out)
              clear hfin hown hbel hrel hO hsm hkk
              go_wp2_with (go_at_call 54; refine HTF.out.mono ?_; rintro r w1' hp; obtain ⟨p1, rfl, hb1⟩ := hp.none; clear hp)
              go_ret2
              rw [HRN.out]
              exact t7_none (HBZ.out.trans (hb1.mono (by omega)))
            | some s =>
              have hs25 := hsm s rfl
              by_cases h12 : s.n ≤ 12
              · have HRN := hid (show R = some s from HRT.out.trans (lim12_small h12))
                clear hfin hown hbel hrel hO hsm hkk
                go_wp2_with (first | (have _ := HT1; go_at_call 55; refine (atoms7_any HT1.out (by omega) _ (Kept.refl _)).mono ?_; rintro r w2' ⟨rfl, k2, rfl⟩) | (go_at_call 54; refine HTF.out.mono ?_; rintro r w1' hp; obtain ⟨a1, rfl, hb1, hn1⟩ := hp.some; have HT1 := hid hn1; have HB1 := hid hb1; clear hp hb1 hn1))
                go_ret2
                rw [HRN.out]
                exact t7_dec (decide_eq_true (by omega)) (below_drewN (HBZ.out.trans (HB1.out.mono (by omega))) _) (HT1.out.drewN _)
              · have HRN := hid (show R = none from HRT.out.trans (by rw [lim12, if_neg h12]))
                have h13 : 12 < s.n := by omega
                clear hfin hown hbel hrel hO hsm hkk h12
                go_wp2_with (first | (have _ := HT1; go_at_call 55; refine (atoms7_any HT1.out (by omega) _ (Kept.refl _)).mono ?_; rintro r w2' ⟨rfl, k2, rfl⟩) | (go_at_call 54; refine HTF.out.mono ?_; rintro r w1' hp; obtain ⟨a1, rfl, hb1, hn1⟩ := hp.some; have HT1 := hid hn1; have HB1 := hid hb1; clear hp hb1 hn1))
                go_ret2
                rw [HRN.out]
                exact t7_decn (decide_eq_false (by omega)) (below_drewN (HBZ.out.trans (HB1.out.mono (by omega))) _)
end Go.Proofs.YtgogoekfidbpdaaDoor
