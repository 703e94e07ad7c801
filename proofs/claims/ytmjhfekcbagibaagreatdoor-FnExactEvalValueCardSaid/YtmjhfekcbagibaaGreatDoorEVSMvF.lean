/- Merged: MvF. -/
import Derived.Test.YtmjhfekcbagibaaGreatDoorEVSMvE
import Derived.Test.YtmjhfekcbagibaaGreatDoorEV12
import Derived.Test.YtmjhfekcbagibaaGreatDoorEV18
namespace Go.Proofs.YtmjhfekcbagibaaGreatDoor
open Go.RowKit

theorem tin_cells {w0 : World} {ps : List Tree} {h : Hd} (ht : TIn w0 (fun _ => True) (.node ps) h) : ∃ (b cap : Nat) (A : Nat → Hd), h = ⟨ByteArray.empty, some ⟨b, 0, none⟩, ps.length, cap⟩ ∧
    (∀ i p, ps[i]? = some p → w0.cell? ⟨b, i * 2, none⟩ = some (.string (A i).a) ∧ w0.cell? ⟨b, i * 2 + 1, none⟩ = some (.slice (A i).p (A i).l (A i).c) ∧ TIn w0 (fun _ => True) p (A i)) := by
  cases ht with
  | node ps b cap A hp hl hc hS hA hB hps =>
    refine ⟨b, cap, A, rfl, fun i p hi => ?_⟩
    have hlt := (List.getElem?_eq_some_iff.1 hi).1
    exact ⟨hA i hlt, hB i hlt, hps i p hi⟩
theorem tin_head {w0 : World} {s : ByteArray} {h : Hd} (ht : TIn w0 (fun _ => True) (.atom s) h) : h.a = s := by cases ht; rfl
theorem hd_f {l l2 : List UInt8} {a : ByteArray} (h : a.toList = l) (hne : (l == l2) = false) : (a.toList == l2) = false := by rw [h]; exact hne

set_option maxRecDepth 100000 in
set_option maxHeartbeats 4000000 in
theorem l7Eval_any {w0 : World} {rb : Nat} (hrb : w0.heap.size ≤ rb) : ∀ (g : Nat) (e : Sx) (h : Hd) (env : List (ByteArray × Sv)) (tenv : List (ByteArray × STy)) (t : STy) (S : Nat → Prop) (np : Option Addr) (nl nc gv vc : Nat) (r : R7) (w : World), TIn w0 (fun _ => True) e.tree h → Kept w0 w → w0.heap.size ≤ w.heap.size → MRun w rb r → r.fuel < g → env.length + r.fuel ≤ 10000 → (∀ p ∈ env, VLn 10000 r.fuel p.2) → r.bit ≤ 1 → (∀ k, S k → k ≠ rb ∧ k < w.heap.size) → EmIn S w0 w env np nl nc gv vc → ETy env tenv → e.an → e.bw → e.wf → e.typ tenv = some t →
    Calls Tryz.prog 7 #[.pointer (some ⟨rb, 0, none⟩), .agg #[.string h.a, .slice h.p h.l h.c], .slice np nl nc, .slice (some ⟨gv, 0, none⟩) nl vc] w (MvPost S w0 rb (e.ev g env r) w) := by
  intro g
  induction g with
  | zero => intro e h env tenv t S np nl nc gv vc r w _ _ _ _ hf; omega
  | succ g IH =>
    intro e h env tenv t S np nl nc gv vc r w hx hk hz hr hf hel hev hb hS he hte ha hw hwf ht
    obtain ⟨n, bt, fl⟩ := r
    simp only at hf hel hev hb
    have hnl : nl ≤ 10000 := by
      obtain ⟨C, hat, _⟩ := he
      have := hat.len
      omega
    cases n with
    | zero =>
      rw [show e.ev (g + 1) env ⟨0, bt, fl⟩ = (none, ⟨0, bt, fl⟩) from by unfold Sx.ev; rw [if_pos rfl]]
      exact me_zero hr
    | succ m =>
      have hf0 : ¬ (⟨m + 1, bt, fl⟩ : R7).fuel = 0 := by simp
      have huse : (⟨m + 1, bt, fl⟩ : R7).use = ⟨m, bt, fl⟩ := rfl
      have hf2 : m + 1 ≤ 1000000000 := by omega
      have hevm : ∀ p ∈ env, VLn 10000 m p.2 := fun p hp => (hev p hp).less (by omega)
      -- a part, in whatever world
      have part : ∀ (k : Sx) (hk2 : Hd) (s : STy) (rr : R7), TIn w0 (fun _ => True) k.tree hk2 → k.an → k.bw → k.wf → k.typ tenv = some s → rr.fuel ≤ m → rr.bit ≤ 1 → ∀ W, w.grownBy W (some rb) → MRun W rb rr →
          Calls Tryz.prog 7 #[.pointer (some ⟨rb, 0, none⟩), .agg #[.string hk2.a, .slice hk2.p hk2.l hk2.c], .slice np nl nc, .slice (some ⟨gv, 0, none⟩) nl vc] W (MvPost S w0 rb (k.ev g env rr) W) := by
        intro k hk2 s rr hkt hka hkw hkf hks hfr hbr W hgW hrW
        exact IH k hk2 env tenv s S np nl nc gv vc rr W hkt (kept_grown2 hk hz hrb hgW) (Nat.le_trans hz hgW.size) hrW (by omega) (by omega) (fun p hp => (hev p hp).less (by omega)) hbr (fun q hq => ⟨(hS q hq).1, Nat.lt_of_lt_of_le (hS q hq).2 hgW.size⟩) (he.keep (skept_grown hgW (fun q hq => (hS q hq).1) (fun _ h => h))) hte hka hkw hkf hks
      cases e with
      | name a =>
        obtain ⟨v, hv, _⟩ := hte.look (lim12_n ht).2
        rw [show (Sx.name a).ev (g + 1) env ⟨m + 1, bt, fl⟩ = (some v, ⟨m, bt, fl⟩) from by rw [Sx.ev, if_neg hf0, ← hv]; rfl]
        cases hx with
        | atom _ hne hm => exact me_name rfl hf2 hr hS he hne (by omega) hv
      | bit a =>
        cases hx with
        | atom _ hne hm =>
          rcases hw with h | h
          · rw [show (Sx.bit a).ev (g + 1) env ⟨m + 1, bt, fl⟩ = (some (.bit 0), ⟨m, bt, fl⟩) from by rw [Sx.ev, if_neg hf0, show bitOf a = 0 from by unfold bitOf; rw [h]; rfl]; rfl]
            exact me_bit rfl hf2 hr hS he hne (by omega) hwf (.inl ⟨h, rfl⟩)
          · rw [show (Sx.bit a).ev (g + 1) env ⟨m + 1, bt, fl⟩ = (some (.bit 1), ⟨m, bt, fl⟩) from by rw [Sx.ev, if_neg hf0, show bitOf a = 1 from by unfold bitOf; rw [h]; rfl]; rfl]
            exact me_bit rfl hf2 hr hS he hne (by omega) hwf (.inr ⟨h, rfl⟩)
      | get =>
        obtain ⟨b, cap, A, rfl, hc⟩ := tin_cells hx
        obtain ⟨c0, -, t0⟩ := hc 0 _ rfl
        have e0 : (A 0).a = hGet := tin_head t0
        have hlt : b < w0.heap.size := World.block_lt_of_cell? w0 _ c0
        exact me_get rfl hf2 hr hS he (by simp) (by rw [e0]; exact hGet_l) (hk.cell c0) (by omega)
      | fail s =>
        obtain ⟨b, cap, A, rfl, hc⟩ := tin_cells hx
        obtain ⟨c0, -, t0⟩ := hc 0 _ rfl
        have e0 : (A 0).a = hFail := tin_head t0
        have hlt : b < w0.heap.size := World.block_lt_of_cell? w0 _ c0
        exact me_fail rfl hf2 hr hS he (by simp) (by rw [e0]; exact hFail_l) (hk.cell c0) (by omega)
      | lam x s e2 =>
        have hx2 := hx
        obtain ⟨b, cap, A, rfl, hc⟩ := tin_cells hx
        obtain ⟨c0, -, t0⟩ := hc 0 _ rfl
        have e0 : (A 0).a = hLam := tin_head t0
        have hlt : b < w0.heap.size := World.block_lt_of_cell? w0 _ c0
        exact me_lam rfl hf2 hr hS he (by simp) (by rw [e0]; exact hLam_l) (hk.cell c0) (by omega) hx2 hwf
      | fst e2 =>
        obtain ⟨a, te⟩ := typ_fst ht
        obtain ⟨b, cap, A, rfl, hc⟩ := tin_cells hx
        obtain ⟨c0, -, t0⟩ := hc 0 _ rfl
        obtain ⟨c1, c1s, t1⟩ := hc 1 _ rfl
        have e0 : (A 0).a.toList = [102, 115, 116] := by rw [show (A 0).a = hFst from tin_head t0]; exact hFst_l
        have hlt : b < w0.heap.size := World.block_lt_of_cell? w0 _ c0
        have hp := part e2 (A 1) _ ⟨m, bt, fl⟩ t1 ha hw hwf te (Nat.le_refl _) hb
        have hty := ev_ty g e2 env tenv _ ⟨m, bt, fl⟩ hb hte ha hw te
        rw [ev_fst_eq hf0, huse]
        simp only [evL]
        generalize e2.ev g env ⟨m, bt, fl⟩ = x1 at hp hty ⊢
        obtain ⟨o1, r1⟩ := x1
        cases o1 with
        | none => exact mp_none rfl hf2 hr (hk.cell c0) (by omega) (hk.cell c1) (hk.cell c1s) (by simp) (hd_f e0 rfl) (hd_f e0 rfl) (hd_f e0 rfl) hp
        | some v =>
          cases hty.2 v rfl with
          | pair x y _ _ hx hy => exact mp_fst rfl hf2 hr hS (hk.cell c0) (by omega) (hk.cell c1) (hk.cell c1s) e0 hp
      | snd e2 =>
        obtain ⟨a, te⟩ := typ_snd ht
        obtain ⟨b, cap, A, rfl, hc⟩ := tin_cells hx
        obtain ⟨c0, -, t0⟩ := hc 0 _ rfl
        obtain ⟨c1, c1s, t1⟩ := hc 1 _ rfl
        have e0 : (A 0).a.toList = [115, 110, 100] := by rw [show (A 0).a = hSnd from tin_head t0]; exact hSnd_l
        have hlt : b < w0.heap.size := World.block_lt_of_cell? w0 _ c0
        have hp := part e2 (A 1) _ ⟨m, bt, fl⟩ t1 ha hw hwf te (Nat.le_refl _) hb
        have hty := ev_ty g e2 env tenv _ ⟨m, bt, fl⟩ hb hte ha hw te
        rw [ev_snd_eq hf0, huse]
        simp only [evL]
        generalize e2.ev g env ⟨m, bt, fl⟩ = x1 at hp hty ⊢
        obtain ⟨o1, r1⟩ := x1
        cases o1 with
        | none => exact mp_none rfl hf2 hr (hk.cell c0) (by omega) (hk.cell c1) (hk.cell c1s) (by simp) (hd_f e0 rfl) (hd_f e0 rfl) (hd_f e0 rfl) hp
        | some v =>
          cases hty.2 v rfl with
          | pair x y _ _ hx hy => exact mp_snd rfl hf2 hr hS (hk.cell c0) (by omega) (hk.cell c1) (hk.cell c1s) e0 hp
      | put e2 =>
        obtain ⟨_, te⟩ := typ_put ht
        obtain ⟨b, cap, A, rfl, hc⟩ := tin_cells hx
        obtain ⟨c0, -, t0⟩ := hc 0 _ rfl
        obtain ⟨c1, c1s, t1⟩ := hc 1 _ rfl
        have e0 : (A 0).a.toList = [112, 117, 116] := by rw [show (A 0).a = hPut from tin_head t0]; exact hPut_l
        have hlt : b < w0.heap.size := World.block_lt_of_cell? w0 _ c0
        have hp := part e2 (A 1) _ ⟨m, bt, fl⟩ t1 ha hw hwf te (Nat.le_refl _) hb
        have hty := ev_ty g e2 env tenv _ ⟨m, bt, fl⟩ hb hte ha hw te
        rw [ev_put_eq hf0, huse]
        simp only [evL]
        generalize e2.ev g env ⟨m, bt, fl⟩ = x1 at hp hty ⊢
        obtain ⟨o1, r1⟩ := x1
        cases o1 with
        | none => exact mp_none rfl hf2 hr (hk.cell c0) (by omega) (hk.cell c1) (hk.cell c1s) (by simp) (hd_f e0 rfl) (hd_f e0 rfl) (hd_f e0 rfl) hp
        | some v =>
          cases hty.2 v rfl with
          | bit q hq => exact mp_put rfl hf2 hr (hk.cell c0) (by omega) (hk.cell c1) (hk.cell c1s) e0 hp
      | iff d e2 f =>
        obtain ⟨td, te, tf⟩ := typ_iff ht
        obtain ⟨b, cap, A, rfl, hc⟩ := tin_cells hx
        obtain ⟨c0, -, t0⟩ := hc 0 _ rfl
        obtain ⟨c1, c1s, t1⟩ := hc 1 _ rfl
        obtain ⟨c2, c2s, t2⟩ := hc 2 _ rfl
        obtain ⟨c3, c3s, t3⟩ := hc 3 _ rfl
        have e0 : (A 0).a.toList = [105, 102] := by rw [show (A 0).a = hIf from tin_head t0]; exact hIf_l
        have hlt : b < w0.heap.size := World.block_lt_of_cell? w0 _ c0
        have hp := part d (A 1) _ ⟨m, bt, fl⟩ t1 ha.1 hw.1 hwf.1 td (Nat.le_refl _) hb
        have hty := ev_ty g d env tenv _ ⟨m, bt, fl⟩ hb hte ha.1 hw.1 td
        have hfu := ev_fuel g d env ⟨m, bt, fl⟩
        rw [ev_iff_eq hf0, huse]
        simp only [evL]
        generalize d.ev g env ⟨m, bt, fl⟩ = x1 at hp hty hfu ⊢
        obtain ⟨o1, r1⟩ := x1
        cases o1 with
        | none => exact mp_none rfl hf2 hr (hk.cell c0) (by omega) (hk.cell c1) (hk.cell c1s) (by simp) (hd_f e0 rfl) (hd_f e0 rfl) (hd_f e0 rfl) hp
        | some v =>
          cases hty.2 v rfl with
          | bit q hq =>
            have h2 := part e2 (A 2) _ r1 t2 ha.2.1 hw.2.1 hwf.2.1 te hfu hty.1
            have h3 := part f (A 3) _ r1 t3 ha.2.2 hw.2.2 hwf.2.2 tf hfu hty.1
            have hq2 : q = 1 ∨ q = 0 := by omega
            rcases hq2 with rfl | rfl
            · exact mp_if1 rfl hf2 hr hS (hk.cell c0) (by omega) (hk.cell c1) (hk.cell c1s) (hk.cell c2) (hk.cell c2s) (hk.cell c3) (hk.cell c3s) e0 h2 hp
            · exact mp_if0 rfl hf2 hr hS (hk.cell c0) (by omega) (hk.cell c1) (hk.cell c1s) (hk.cell c2) (hk.cell c2s) (hk.cell c3) (hk.cell c3s) e0 h3 hp
      | pair d e2 =>
        obtain ⟨a1, a2, _, td, te⟩ := typ_pair ht
        obtain ⟨b, cap, A, rfl, hc⟩ := tin_cells hx
        obtain ⟨c0, -, t0⟩ := hc 0 _ rfl
        obtain ⟨c1, c1s, t1⟩ := hc 1 _ rfl
        obtain ⟨c2, c2s, t2⟩ := hc 2 _ rfl
        have e0 : (A 0).a.toList = [112, 97, 105, 114] := by rw [show (A 0).a = hPair from tin_head t0]; exact hPair_l
        have hlt : b < w0.heap.size := World.block_lt_of_cell? w0 _ c0
        have hp := part d (A 1) _ ⟨m, bt, fl⟩ t1 ha.1 hw.1 hwf.1 td (Nat.le_refl _) hb
        have hty := ev_ty g d env tenv _ ⟨m, bt, fl⟩ hb hte ha.1 hw.1 td
        have hfu := ev_fuel g d env ⟨m, bt, fl⟩
        rw [ev_pair_eq hf0, huse]
        simp only [evL]
        generalize d.ev g env ⟨m, bt, fl⟩ = x1 at hp hty hfu ⊢
        obtain ⟨o1, r1⟩ := x1
        cases o1 with
        | none => exact mp_none rfl hf2 hr (hk.cell c0) (by omega) (hk.cell c1) (hk.cell c1s) (by simp) (hd_f e0 rfl) (hd_f e0 rfl) (hd_f e0 rfl) hp
        | some v =>
          have h2 := part e2 (A 2) _ r1 t2 ha.2 hw.2 hwf.2 te hfu hty.1
          simp only
          generalize e2.ev g env r1 = x2 at h2 ⊢
          obtain ⟨o2, r2⟩ := x2
          cases o2 with
          | none => exact mp_none2 rfl hf2 hr (hk.cell c0) (by omega) (hk.cell c1) (hk.cell c1s) (hk.cell c2) (hk.cell c2s) (hd_f e0 rfl) (hd_f e0 rfl) (hd_f e0 rfl) (hd_f e0 rfl) (hd_f e0 rfl) (hd_f e0 rfl) (hd_f e0 rfl) h2 hp
          | some u => exact mp_pair rfl hf2 hr hS (hk.cell c0) (by omega) (hk.cell c1) (hk.cell c1s) (hk.cell c2) (hk.cell c2s) e0 h2 hp
      | app d e2 =>
        obtain ⟨a, td, te⟩ := typ_app ht
        obtain ⟨b, cap, A, rfl, hc⟩ := tin_cells hx
        obtain ⟨c0, -, t0⟩ := hc 0 _ rfl
        obtain ⟨c1, c1s, t1⟩ := hc 1 _ rfl
        obtain ⟨c2, c2s, t2⟩ := hc 2 _ rfl
        have e0 : (A 0).a.toList = [97, 112, 112] := by rw [show (A 0).a = hApp from tin_head t0]; exact hApp_l
        have hlt : b < w0.heap.size := World.block_lt_of_cell? w0 _ c0
        have hp := part d (A 1) _ ⟨m, bt, fl⟩ t1 ha.1 hw.1 hwf.1 td (Nat.le_refl _) hb
        have hty := ev_ty g d env tenv _ ⟨m, bt, fl⟩ hb hte ha.1 hw.1 td
        have hfu := ev_fuel g d env ⟨m, bt, fl⟩
        have hvl := ev_len 10000 g d env ⟨m, bt, fl⟩ (by simp only; omega) hevm
        rw [ev_app_eq hf0, huse]
        simp only [evL]
        generalize d.ev g env ⟨m, bt, fl⟩ = x1 at hp hty hfu hvl ⊢
        obtain ⟨o1, r1⟩ := x1
        cases o1 with
        | none => exact mp_none rfl hf2 hr (hk.cell c0) (by omega) (hk.cell c1) (hk.cell c1s) (by simp) (hd_f e0 rfl) (hd_f e0 rfl) (hd_f e0 rfl) hp
        | some v =>
          simp only at hfu
          have hv1 := hvl v rfl
          have h2 := part e2 (A 2) _ r1 t2 ha.2 hw.2 hwf.2 te hfu hty.1
          have hty2 := ev_ty g e2 env tenv _ r1 hty.1 hte ha.2 hw.2 te
          have hfu2 := ev_fuel g e2 env r1
          have hvl2 := ev_len 10000 g e2 env r1 (by omega) (fun p hp => (hevm p hp).less hfu)
          simp only
          generalize e2.ev g env r1 = x2 at h2 hty2 hfu2 hvl2 ⊢
          obtain ⟨o2, r2⟩ := x2
          cases o2 with
          | none => exact mp_none2 rfl hf2 hr (hk.cell c0) (by omega) (hk.cell c1) (hk.cell c1s) (hk.cell c2) (hk.cell c2s) (hd_f e0 rfl) (hd_f e0 rfl) (hd_f e0 rfl) (hd_f e0 rfl) (hd_f e0 rfl) (hd_f e0 rfl) (hd_f e0 rfl) h2 hp
          | some u =>
            simp only at hfu2
            have hu := hty2.2 u rfl
            have hv2 := hvl2 u rfl
            cases hty.2 v rfl with
            | clo x _ _ e3 cenv ctenv hce hcs han hbw hct =>
              cases hv1 with
              | clo _ _ _ _ hcl hcv =>
                simp only at hcl hcv hv2
                simp only
                refine mp_app rfl hf2 hr hS (hk.cell c0) (by omega) (hk.cell c1) (hk.cell c1s) (hk.cell c2) (hk.cell c2s) e0 hk hz hrb (by omega) h2 (fun S' W hb2 np' n' nc' gv' vc' hS' hgW hrW htb hwf3 hem => ?_) hp
                exact IH e3 hb2 _ _ t S' np' n' nc' gv' vc' r2 W htb (kept_grown2 hk hz hrb hgW) (Nat.le_trans hz hgW.size) hrW (by omega) (by simp; omega) (fun p hp => by
                  rcases List.mem_cons.1 hp with rfl | hp
                  · exact hv2
                  · exact (hcv p hp).less hfu2) hty2.1 hS' hem (.cons x u a cenv ctenv hu hcs hce) han hbw hwf3.2 hct
end Go.Proofs.YtmjhfekcbagibaaGreatDoor
