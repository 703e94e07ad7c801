/- Merged: StY, StZ, StXl. -/
import Derived.Test.YtapimaabijgaiaaDoorSTSStW
import Derived.Test.YtapimaabijgaiaaDoorST8
import Derived.Test.YtapimaabijgaiaaDoorST17
namespace Go.Proofs.YtapimaabijgaiaaDoor
open Go.RowKit

theorem typ_app7 (d e : Sx) (env : List (ByteArray × STy)) : (Sx.app d e).typ env = tyApp7 (d.typ env) (e.typ env) := by
  rw [Sx.typ]
  cases hd : d.typ env with
  | none => cases e.typ env <;> rfl
  | some a =>
    cases he : e.typ env with
    | none => cases a <;> rfl
    | some c =>
      cases a with
      | bit => rfl
      | pair x y => rfl
      | fn x y =>
        have := typ_n hd
        simp only [STy.n] at this
        simp only [tyApp7]
        rw [lim12_small (s := y) (by omega)]
theorem typ_if7 (d e g : Sx) (env : List (ByteArray × STy)) : (Sx.iff d e g).typ env = tyIf7 (d.typ env) (e.typ env) (g.typ env) := by
  rw [Sx.typ]
  cases hd : d.typ env with
  | none => rfl
  | some a =>
    cases he : e.typ env with
    | none => cases a <;> rfl
    | some c =>
      cases hg : g.typ env with
      | none => cases a <;> rfl
      | some k =>
        cases a with
        | bit => simp only [tyIf7]; rw [lim12_small (typ_n he)]
        | pair x y => rfl
        | fn x y => rfl
theorem typ_pair7 (d e : Sx) (env : List (ByteArray × STy)) : (Sx.pair d e).typ env = tyPair7 (d.typ env) (e.typ env) := by
  rw [Sx.typ]
  cases hd : d.typ env with
  | none => rfl
  | some a => cases he : e.typ env <;> rfl
theorem typ_fst7 (e : Sx) (env : List (ByteArray × STy)) : (Sx.fst e).typ env = tyFst (e.typ env) := by
  rw [Sx.typ]
  cases he : e.typ env with
  | none => rfl
  | some a =>
    cases a with
    | pair x y => have := typ_n he; simp only [STy.n] at this; simp only [tyFst]; rw [lim12_small (s := x) (by omega)]
    | bit => rfl
    | fn x y => rfl
theorem typ_snd7 (e : Sx) (env : List (ByteArray × STy)) : (Sx.snd e).typ env = tySnd (e.typ env) := by
  rw [Sx.typ]
  cases he : e.typ env with
  | none => rfl
  | some a =>
    cases a with
    | pair x y => have := typ_n he; simp only [STy.n] at this; simp only [tySnd]; rw [lim12_small (s := y) (by omega)]
    | bit => rfl
    | fn x y => rfl
theorem typ_put7 (e : Sx) (env : List (ByteArray × STy)) : (Sx.put e).typ env = tyPut7 (e.typ env) := by
  rw [Sx.typ]
  cases he : e.typ env with
  | none => rfl
  | some a => cases a <;> rfl
theorem kept_then {a b c : World} (h1 : Kept a b) (hs : a.heap.size ≤ b.heap.size) (h2 : Kept b c) : Kept a c := fun k hk => (h2 k (by omega)).trans (h1 k hk)

theorem wt_1_1 (q a : Tree) : a.wt < (Tree.node [q, a]).wt := by simp only [Tree.wt, Tree.wts]; omega
theorem wt_1_2 (q a b : Tree) : a.wt < (Tree.node [q, a, b]).wt := by simp only [Tree.wt, Tree.wts]; omega
theorem wt_2_2 (q a b : Tree) : b.wt < (Tree.node [q, a, b]).wt := by simp only [Tree.wt, Tree.wts]; omega
theorem wt_1_3 (q a b c : Tree) : a.wt < (Tree.node [q, a, b, c]).wt := by simp only [Tree.wt, Tree.wts]; omega
theorem wt_2_3 (q a b c : Tree) : b.wt < (Tree.node [q, a, b, c]).wt := by simp only [Tree.wt, Tree.wts]; omega
theorem wt_3_3 (q a b c : Tree) : c.wt < (Tree.node [q, a, b, c]).wt := by simp only [Tree.wt, Tree.wts]; omega
/-- THE MODEL's TYPE OF A SOURCE EXPRESSION. -/
theorem l7Type_any {w0 : World} {S : Nat → Prop} (m : Sx) : ∀ {h : Hd}, TIn w0 S m.tree h → m.tree.write.length ≤ 12000 → m.wf → m.an → Ty7 w0 m h := by
  induction m with
  | name a =>
    intro h ht hwl hwf han
    cases ht with
    | atom s hne hm => exact ty7_name w0 a hne (by have : a.size ≤ 12000 := Nat.le_trans (text_le (.atom a)) hwl; omega) hwf
  | bit a =>
    intro h ht hwl hwf han
    cases ht with
    | atom s hne hm => exact ty7_bit w0 a hne (by have : a.size ≤ 12000 := Nat.le_trans (text_le (.atom a)) hwl; omega) hwf
  | get =>
    intro h ht hwl hwf han
    cases ht with
    | node ps b cap A hp hl hc hS hA hB hps => exact ty7_get ⟨hl, hc⟩ (by rw [(hps 0 _ rfl).text]; exact hGet_l) (by simpa using hA 0 (by simp))
  | fail s =>
    intro h ht hwl hwf han
    cases ht with
    | node ps b cap A hp hl hc hS hA hB hps => exact ty7_fail ⟨hl, hc⟩ han (by rw [(hps 0 _ rfl).text]; exact hFail_l) hA hB (hps 1 _ rfl)
  | lam x s e ihe =>
    intro h ht hwl hwf han
    simp only [Sx.tree] at hwl
    cases ht with
    | node ps b cap A hp hl hc hS hA hB hps => exact ty7_lam ⟨hl, hc⟩ han.1 (by rw [(hps 0 _ rfl).text]; exact hLam_l) (hps 1 _ rfl).text hA hB (hps 2 _ rfl) (ihe (hps 3 _ rfl) (Nat.le_trans (part_le (i := 3) rfl) hwl) hwf.2 han.2)
  | app d e ihd ihe =>
    intro h ht hwl hwf han
    simp only [Sx.tree] at hwl
    cases ht with
    | node ps b cap A hp hl hc hS hA hB hps =>
      intro env np tp n nc tc w hk hw hn hnw hen hs1 hs2
      rw [typ_app7]
      simp only [Sx.tree] at hnw
      exact ty7_app (w0 := w0) ⟨hl, hc⟩ hk hw (by rw [(hps 0 _ rfl).text]; exact hApp_l) hA hB [d.typ env, e.typ env] (d.typ env) (e.typ env) rfl (by intro o ho s e; simp at ho; rcases ho with rfl | rfl <;> exact typ_n e) (fun i o ho W hkW hwW => by
          match i, ho with
          | 0, ho => simp at ho; subst ho; exact ihd (hps 1 _ rfl) (Nat.le_trans (part_le (i := 1) rfl) hwl) (hwf.1) (han.1) env np tp n nc tc W (kept_then hk hw hkW) (by omega) hn (by have := wt_1_2 (.atom hApp) (d.tree) (e.tree); omega) hen (hs1.kept hkW) (hs2.kept hkW)
          | 1, ho => simp at ho; subst ho; exact ihe (hps 2 _ rfl) (Nat.le_trans (part_le (i := 2) rfl) hwl) (hwf.2) (han.2) env np tp n nc tc W (kept_then hk hw hkW) (by omega) hn (by have := wt_2_2 (.atom hApp) (d.tree) (e.tree); omega) hen (hs1.kept hkW) (hs2.kept hkW)
          | i + 2, ho => simp at ho)
  | iff d e g ihd ihe ihg =>
    intro h ht hwl hwf han
    simp only [Sx.tree] at hwl
    cases ht with
    | node ps b cap A hp hl hc hS hA hB hps =>
      intro env np tp n nc tc w hk hw hn hnw hen hs1 hs2
      rw [typ_if7]
      simp only [Sx.tree] at hnw
      exact ty7_if (w0 := w0) ⟨hl, hc⟩ hk hw (by rw [(hps 0 _ rfl).text]; exact hIf_l) hA hB [d.typ env, e.typ env, g.typ env] (d.typ env) (e.typ env) (g.typ env) rfl (by intro o ho s e; simp at ho; rcases ho with rfl | rfl | rfl <;> exact typ_n e) (fun i o ho W hkW hwW => by
          match i, ho with
          | 0, ho => simp at ho; subst ho; exact ihd (hps 1 _ rfl) (Nat.le_trans (part_le (i := 1) rfl) hwl) (hwf.1) (han.1) env np tp n nc tc W (kept_then hk hw hkW) (by omega) hn (by have := wt_1_3 (.atom hIf) (d.tree) (e.tree) (g.tree); omega) hen (hs1.kept hkW) (hs2.kept hkW)
          | 1, ho => simp at ho; subst ho; exact ihe (hps 2 _ rfl) (Nat.le_trans (part_le (i := 2) rfl) hwl) (hwf.2.1) (han.2.1) env np tp n nc tc W (kept_then hk hw hkW) (by omega) hn (by have := wt_2_3 (.atom hIf) (d.tree) (e.tree) (g.tree); omega) hen (hs1.kept hkW) (hs2.kept hkW)
          | 2, ho => simp at ho; subst ho; exact ihg (hps 3 _ rfl) (Nat.le_trans (part_le (i := 3) rfl) hwl) (hwf.2.2) (han.2.2) env np tp n nc tc W (kept_then hk hw hkW) (by omega) hn (by have := wt_3_3 (.atom hIf) (d.tree) (e.tree) (g.tree); omega) hen (hs1.kept hkW) (hs2.kept hkW)
          | i + 3, ho => simp at ho)
  | pair d e ihd ihe =>
    intro h ht hwl hwf han
    simp only [Sx.tree] at hwl
    cases ht with
    | node ps b cap A hp hl hc hS hA hB hps =>
      intro env np tp n nc tc w hk hw hn hnw hen hs1 hs2
      rw [typ_pair7]
      simp only [Sx.tree] at hnw
      exact ty7_pair (w0 := w0) ⟨hl, hc⟩ hk hw (by rw [(hps 0 _ rfl).text]; exact hPair_l) hA hB [d.typ env, e.typ env] (d.typ env) (e.typ env) rfl (by intro o ho s e; simp at ho; rcases ho with rfl | rfl <;> exact typ_n e) (fun i o ho W hkW hwW => by
          match i, ho with
          | 0, ho => simp at ho; subst ho; exact ihd (hps 1 _ rfl) (Nat.le_trans (part_le (i := 1) rfl) hwl) (hwf.1) (han.1) env np tp n nc tc W (kept_then hk hw hkW) (by omega) hn (by have := wt_1_2 (.atom hPair) (d.tree) (e.tree); omega) hen (hs1.kept hkW) (hs2.kept hkW)
          | 1, ho => simp at ho; subst ho; exact ihe (hps 2 _ rfl) (Nat.le_trans (part_le (i := 2) rfl) hwl) (hwf.2) (han.2) env np tp n nc tc W (kept_then hk hw hkW) (by omega) hn (by have := wt_2_2 (.atom hPair) (d.tree) (e.tree); omega) hen (hs1.kept hkW) (hs2.kept hkW)
          | i + 2, ho => simp at ho)
  | fst e ihe =>
    intro h ht hwl hwf han
    simp only [Sx.tree] at hwl
    cases ht with
    | node ps b cap A hp hl hc hS hA hB hps =>
      intro env np tp n nc tc w hk hw hn hnw hen hs1 hs2
      rw [typ_fst7]
      simp only [Sx.tree] at hnw
      exact ty7_fst (w0 := w0) ⟨hl, hc⟩ hk hw (by rw [(hps 0 _ rfl).text]; exact hFst_l) hA hB [e.typ env] (e.typ env) rfl (by intro o ho s e; simp at ho; subst ho; exact typ_n e) (fun i o ho W hkW hwW => by
          match i, ho with
          | 0, ho => simp at ho; subst ho; exact ihe (hps 1 _ rfl) (Nat.le_trans (part_le (i := 1) rfl) hwl) (hwf) (han) env np tp n nc tc W (kept_then hk hw hkW) (by omega) hn (by have := wt_1_1 (.atom hFst) (e.tree); omega) hen (hs1.kept hkW) (hs2.kept hkW)
          | i + 1, ho => simp at ho)
  | snd e ihe =>
    intro h ht hwl hwf han
    simp only [Sx.tree] at hwl
    cases ht with
    | node ps b cap A hp hl hc hS hA hB hps =>
      intro env np tp n nc tc w hk hw hn hnw hen hs1 hs2
      rw [typ_snd7]
      simp only [Sx.tree] at hnw
      exact ty7_snd (w0 := w0) ⟨hl, hc⟩ hk hw (by rw [(hps 0 _ rfl).text]; exact hSnd_l) hA hB [e.typ env] (e.typ env) rfl (by intro o ho s e; simp at ho; subst ho; exact typ_n e) (fun i o ho W hkW hwW => by
          match i, ho with
          | 0, ho => simp at ho; subst ho; exact ihe (hps 1 _ rfl) (Nat.le_trans (part_le (i := 1) rfl) hwl) (hwf) (han) env np tp n nc tc W (kept_then hk hw hkW) (by omega) hn (by have := wt_1_1 (.atom hSnd) (e.tree); omega) hen (hs1.kept hkW) (hs2.kept hkW)
          | i + 1, ho => simp at ho)
  | put e ihe =>
    intro h ht hwl hwf han
    simp only [Sx.tree] at hwl
    cases ht with
    | node ps b cap A hp hl hc hS hA hB hps =>
      intro env np tp n nc tc w hk hw hn hnw hen hs1 hs2
      rw [typ_put7]
      simp only [Sx.tree] at hnw
      exact ty7_put (w0 := w0) ⟨hl, hc⟩ hk hw (by rw [(hps 0 _ rfl).text]; exact hPut_l) hA hB [e.typ env] (e.typ env) rfl (by intro o ho s e; simp at ho; subst ho; exact typ_n e) (fun i o ho W hkW hwW => by
          match i, ho with
          | 0, ho => simp at ho; subst ho; exact ihe (hps 1 _ rfl) (Nat.le_trans (part_le (i := 1) rfl) hwl) (hwf) (han) env np tp n nc tc W (kept_then hk hw hkW) (by omega) hn (by have := wt_1_1 (.atom hPut) (e.tree); omega) hen (hs1.kept hkW) (hs2.kept hkW)
          | i + 1, ho => simp at ho)

/-- An expression with a type has names of the environment alone. -/
theorem typ_fnm (e : Sx) : ∀ (env : List (ByteArray × STy)) (t : STy), e.typ env = some t → ∀ x ∈ e.fnm, ∃ y ∈ env, y.1.toList = x.toList := by
  have look : ∀ (env : List (ByteArray × STy)) (l : List UInt8) (s : STy), tLook env l = some s → ∃ y ∈ env, y.1.toList = l := by
    intro env; induction env with
    | nil => intro l s h; simp [tLook] at h
    | cons y env ih =>
      intro l s h
      obtain ⟨y, sy⟩ := y
      rw [tLook] at h
      split at h
      · rename_i e; exact ⟨(y, sy), by simp, by simpa using e⟩
      · obtain ⟨z, hz, e⟩ := ih l s h; exact ⟨z, by simp [hz], e⟩
  induction e with
  | name a =>
    intro env t h x hx
    simp [Sx.fnm] at hx; subst hx
    exact look env _ t (lim12_n h).2
  | bit a => intro env t h x hx; simp [Sx.fnm] at hx
  | get => intro env t h x hx; simp [Sx.fnm] at hx
  | fail s => intro env t h x hx; simp [Sx.fnm] at hx
  | lam y s e ihe =>
    intro env t h x hx
    rw [Sx.typ] at h
    cases he : e.typ ((y, s) :: env) with
    | none => rw [he] at h; simp at h
    | some t2 =>
      simp only [Sx.fnm, List.mem_filter] at hx
      obtain ⟨z, hz, e2⟩ := ihe _ t2 he x hx.1
      rcases List.mem_cons.1 hz with rfl | hz
      · have := hx.2; simp at this; exact absurd e2.symm this
      · exact ⟨z, hz, e2⟩
  | app d e ihd ihe =>
    intro env t h x hx
    rw [typ_app7] at h
    simp only [Sx.fnm, List.mem_append] at hx
    cases hd : d.typ env with
    | none => rw [hd] at h; cases e.typ env <;> simp [tyApp7] at h
    | some a => cases he : e.typ env with
      | none => rw [hd, he] at h; cases a <;> simp [tyApp7] at h
      | some c => rcases hx with hx | hx; exact ihd env a hd x hx; exact ihe env c he x hx
  | iff d e g ihd ihe ihg =>
    intro env t h x hx
    rw [typ_if7] at h
    simp only [Sx.fnm, List.mem_append] at hx
    cases hd : d.typ env with
    | none => rw [hd] at h; simp [tyIf7] at h
    | some a => cases he : e.typ env with
      | none => rw [hd, he] at h; cases a <;> simp [tyIf7] at h
      | some c => cases hg : g.typ env with
        | none => rw [hd, he, hg] at h; cases a <;> simp [tyIf7] at h
        | some k => rcases hx with hx | hx | hx; exact ihd env a hd x hx; exact ihe env c he x hx; exact ihg env k hg x hx
  | pair d e ihd ihe =>
    intro env t h x hx
    rw [typ_pair7] at h
    simp only [Sx.fnm, List.mem_append] at hx
    cases hd : d.typ env with
    | none => rw [hd] at h; simp [tyPair7] at h
    | some a => cases he : e.typ env with
      | none => rw [hd, he] at h; simp [tyPair7] at h
      | some c => rcases hx with hx | hx; exact ihd env a hd x hx; exact ihe env c he x hx
  | fst e ihe =>
    intro env t h x hx
    rw [typ_fst7] at h
    cases he : e.typ env with
    | none => rw [he] at h; simp [tyFst] at h
    | some a => exact ihe env a he x hx
  | snd e ihe =>
    intro env t h x hx
    rw [typ_snd7] at h
    cases he : e.typ env with
    | none => rw [he] at h; simp [tySnd] at h
    | some a => exact ihe env a he x hx
  | put e ihe =>
    intro env t h x hx
    rw [typ_put7] at h
    cases he : e.typ env with
    | none => rw [he] at h; simp [tyPut7] at h
    | some a => exact ihe env a he x hx
theorem dedB_ge : ∀ (F L : List ByteArray), L.length ≤ (dedB L F).length
  | [], L => by simp [dedB]
  | x :: F, L => by
    rw [dedB]
    split
    · exact dedB_ge F L
    · have := dedB_ge F (L ++ [x]); simp at this ⊢; omega
/-- No name stands free, or the expression has no type. -/
theorem typ_closed {m : Sx} (hwf : m.wf) : dedB [] (m.free []) ≠ [] → m.typ [] = none := by
  intro h
  rw [free_nil hwf] at h
  cases ht : m.typ [] with
  | none => rfl
  | some t =>
    cases hf : m.fnm with
    | nil => rw [hf] at h; simp [dedB] at h
    | cons x l =>
      obtain ⟨y, hy, _⟩ := typ_fnm m [] t ht x (by rw [hf]; simp)
      simp at hy
end Go.Proofs.YtapimaabijgaiaaDoor

namespace Go.Proofs.YtapimaabijgaiaaDoor
open Go.RowKit

/-- What l7Closed answers. -/
def clT (s : ByteArray) : ByteArray := txt7 ((stE s).map Prod.snd)
theorem stT_cl (s : ByteArray) : txV (stT s) = .tuple #[.string (clT s), .bool (!((clT s).toList == []))] := by
  unfold stT clT
  cases h : stE s with
  | none => simp only [Option.map_none]; rw [txt7_none]; rfl
  | some x => simp only [Option.map_some]; rw [txt7_none]; rfl
theorem stE_none {s : ByteArray} (h : readSx s = none) : clT s = ByteArray.empty := by unfold clT stE; rw [h]; rfl
theorem stE_some {s : ByteArray} {m : Sx} (h : readSx s = some m) : clT s = txt7 (m.typ []) := by
  unfold clT stE; rw [h]; simp only; cases m.typ [] <;> rfl
theorem readSx_all {s : ByteArray} {m : Sx} (h : readSx s = some m) : m.tree.wt ≤ 12000 ∧ m.tree.write.length ≤ 12000 ∧ m.wf ∧ m.an := by
  obtain ⟨hp, _, hx⟩ := readSx_inv h
  exact ⟨parse_wt hp, parse_small hp, sx_wf hx, sx_an hx⟩

set_option maxRecDepth 100000 in
set_option maxHeartbeats 4000000 in
theorem l7Closed_any (s : ByteArray) (hs : s.size ≤ 400000000) (w : World) : Calls Tryd.prog 6 #[.string s] w fun e w' => e = .returned (.string (clT s)) ∧ Below w.heap.size w w' := by
  have HC := hid (fun W => l7Read_any s hs W)
  have HE := hid (sxTree_eq s)
  cases hr : readSx s with
  | none =>
    have HT := hid (show sxTree s = none by rw [HE.out, hr]; rfl)
    rw [stE_none hr]
    clear hr
    go_enter Tryd.func6, Tryd.ntmps6
    go_wp2_with (go_at_call 9; refine (HC.out _).mono ?_; rintro e w1 hp; rw [HT.out] at hp; obtain ⟨pa, pp, pl, pc, rfl, hpl, hb1⟩ := hp.none; clear hp)
    go_ret
    exact ⟨rfl, hb1.alloc hb1.size _⟩
  | some m =>
    have HT := hid (show sxTree s = some m.tree by rw [HE.out, hr]; rfl)
    obtain ⟨hwt, hwl, hwf, han⟩ := readSx_all hr
    rw [stE_some hr]
    clear hr
    have hcl := typ_closed hwf
    obtain ⟨R, hRR⟩ : ∃ R, dedB [] (m.free []) = R := ⟨_, rfl⟩
    have HCL := hid (fun (w0 : World) (S : Nat → Prop) (h : Hd) (ht : TIn w0 S m.tree h) => by
      have := l7Free_any m ht hwl [] []
      rw [hRR] at this; exact this)
    have HTY := hid (fun (w0 : World) (S : Nat → Prop) (h : Hd) (ht : TIn w0 S m.tree h) => l7Type_any m ht hwl hwf han [])
    rw [hRR] at hcl
    obtain ⟨Y, hY⟩ : ∃ Y, txt7 (m.typ []) = Y := ⟨_, rfl⟩
    rw [hY] at HTY ⊢
    by_cases hR0 : R = []
    · have HNL := hid (show R.length = 0 by rw [hR0]; rfl)
      clear hRR hcl hY hR0
      go_enter Tryd.func6, Tryd.ntmps6
      go_wp2_with (first
        | (have _ := HK4; go_at_call 11; refine (HTY.out _ _ _ HTR.out (some ⟨w4.heap.size, 0, none⟩) (some ⟨w4.heap.size + 1, 0, none⟩) 0 0 0 _ ((HK4.out.alloc (by omega) _).alloc (by simp; omega) _) (by simp; omega) rfl (by omega) (by simp) ⟨rfl, fun e => by simp at e, fun i s h => by simp [nsOf] at h⟩ ⟨rfl, fun e => by simp at e, fun i s h => by simp [tsOf] at h⟩).mono ?_; rintro e w5 ⟨rfl, hb5⟩)
        | (go_at_call 10; have _ := hb1; rw [← HW.out]; refine (HD.out (some ⟨w1.heap.size + 1, 0, none⟩) (some ⟨w1.heap.size + 2, 0, none⟩) 0 0 0 0 w1.heap.size W2 (Kept.of_below HBW.out (Nat.le_refl _)) HBW.out.size (Nat.le_refl _) HBW.out.size ⟨rfl, fun e => by simp at e, fun i s h => by simp at h⟩ HAP.out HOE.out (by omega) (by omega)).mono ?_; rintro e w4 hp; obtain ⟨q4, c4, he4, ho4, hg4, _⟩ := hp; rw [HNL.out] at he4; subst he4; have HK4 := hid (show Kept w1 w4 from fun k hk => (hg4.block k (by omega) (fun e => by simp [Value.ownBlock] at e; omega)).trans ((Kept.of_below HBW.out (Nat.le_refl _)) k hk)); have s4 := hg4.size; have kc4 := cells_of_pair (block_grown HBX.out hg4 (fun e => by simp [Value.ownBlock] at e)); have HG4 := hid hg4; clear ho4 hg4)
        | (go_at_call 9; refine (HC.out _).mono ?_; rintro e w1 hp; rw [HT.out] at hp; obtain ⟨pa, pp, pl, pc, rfl, hb1, htr⟩ := hp.some; clear hp; have s1 := hb1.size; have HTR := hid htr; obtain ⟨W2, hW2⟩ : ∃ W2, W2 = ((w1.alloc (.cells #[.string pa, .slice pp pl pc] 33)).alloc (.cells #[] 9)).alloc (.cells #[] 9) := ⟨_, rfl⟩; have hbw : Below w1.heap.size w1 W2 := (by rw [hW2]; exact (((Below.refl _ _).alloc (Nat.le_refl _) _).alloc (by simp) _).alloc (by simp; omega) _); have hsW : W2.heap.size = w1.heap.size + 3 := (by rw [hW2]; simp); have ho := own_empty ((w1.alloc (.cells #[.string pa, .slice pp pl pc] 33)).alloc (.cells #[] 9)) w1.heap.size (by simp; omega); have hosz : ((w1.alloc (.cells #[.string pa, .slice pp pl pc] 33)).alloc (.cells #[] 9)).heap.size = w1.heap.size + 2 := (by simp); rw [← hW2, hosz] at ho; have HOE := hid (show W2.ownsRow w1.heap.size 9 1 (.slice (some ⟨w1.heap.size + 2, 0, none⟩) 0 0) 0 (([] : List ByteArray).map Value.string) from by simpa using ho); have HAP := hid (fun g o (e : (some ⟨w1.heap.size + 1, 0, none⟩ : Option Addr) = some ⟨g, o, none⟩) => (show (Value.slice (some ⟨w1.heap.size + 2, 0, none⟩) 0 0).ownBlock ≠ some g ∧ g < W2.heap.size from by simp at e; obtain ⟨rfl, _⟩ := e; exact ⟨by simp [Value.ownBlock], by omega⟩)); have hbx1 : W2.heap[w1.heap.size]? = some (.cells #[.string pa, .slice pp pl pc] 33 (0, 0)) := (by rw [hW2]; exact block_below (heap_new w1 (.cells #[.string pa, .slice pp pl pc] 33) _ rfl) (((Below.refl (w1.alloc (.cells #[.string pa, .slice pp pl pc] 33)).heap.size _).alloc (Nat.le_refl _) _).alloc (by simp) _) (by simp)); have HBX := hid hbx1; have HW := hid hW2; have HBW := hid hbw; clear hW2 hbw ho hosz hbx1; have HD := hid (fun bp lp bn bc ln lc base W => HCL.out _ _ _ htr bp lp bn bc ln lc base W); clear htr))
      go_ret
      have hbW := hb1.trans (HBW.out.mono s1)
      have hb4 := hbW.grown HG4.out hbW.size (fun k e => by simp [Value.ownBlock] at e; omega)
      exact ⟨rfl, ((hb4.alloc hb4.size _).alloc (by have := hb4.size; simp; omega) _).trans (hb5.mono (by have := hb4.size; simp; omega))⟩
    · have HYE := hid (show Y = ByteArray.empty by rw [← hY, hcl hR0]; rfl)
      obtain ⟨n, hn⟩ : ∃ n, R.length = n := ⟨_, rfl⟩
      have hn0 : 0 < n := by rw [← hn]; exact List.length_pos_iff.2 hR0
      have HNL := hid hn
      clear hRR hcl hY hR0 hn
      go_enter Tryd.func6, Tryd.ntmps6
      go_wp2_with (first
        | (go_at_call 10; have _ := hb1; rw [← HW.out]; refine (HD.out (some ⟨w1.heap.size + 1, 0, none⟩) (some ⟨w1.heap.size + 2, 0, none⟩) 0 0 0 0 w1.heap.size W2 (Kept.of_below HBW.out (Nat.le_refl _)) HBW.out.size (Nat.le_refl _) HBW.out.size ⟨rfl, fun e => by simp at e, fun i s h => by simp at h⟩ HAP.out HOE.out (by omega) (by omega)).mono ?_; rintro e w4 hp; obtain ⟨q4, c4, he4, ho4, hg4, _⟩ := hp; rw [HNL.out] at he4; subst he4; have HK4 := hid (show Kept w1 w4 from fun k hk => (hg4.block k (by omega) (fun e => by simp [Value.ownBlock] at e; omega)).trans ((Kept.of_below HBW.out (Nat.le_refl _)) k hk)); have s4 := hg4.size; have kc4 := cells_of_pair (block_grown HBX.out hg4 (fun e => by simp [Value.ownBlock] at e)); have HG4 := hid hg4; clear ho4 hg4)
        | (go_at_call 9; refine (HC.out _).mono ?_; rintro e w1 hp; rw [HT.out] at hp; obtain ⟨pa, pp, pl, pc, rfl, hb1, htr⟩ := hp.some; clear hp; have s1 := hb1.size; have HTR := hid htr; obtain ⟨W2, hW2⟩ : ∃ W2, W2 = ((w1.alloc (.cells #[.string pa, .slice pp pl pc] 33)).alloc (.cells #[] 9)).alloc (.cells #[] 9) := ⟨_, rfl⟩; have hbw : Below w1.heap.size w1 W2 := (by rw [hW2]; exact (((Below.refl _ _).alloc (Nat.le_refl _) _).alloc (by simp) _).alloc (by simp; omega) _); have hsW : W2.heap.size = w1.heap.size + 3 := (by rw [hW2]; simp); have ho := own_empty ((w1.alloc (.cells #[.string pa, .slice pp pl pc] 33)).alloc (.cells #[] 9)) w1.heap.size (by simp; omega); have hosz : ((w1.alloc (.cells #[.string pa, .slice pp pl pc] 33)).alloc (.cells #[] 9)).heap.size = w1.heap.size + 2 := (by simp); rw [← hW2, hosz] at ho; have HOE := hid (show W2.ownsRow w1.heap.size 9 1 (.slice (some ⟨w1.heap.size + 2, 0, none⟩) 0 0) 0 (([] : List ByteArray).map Value.string) from by simpa using ho); have HAP := hid (fun g o (e : (some ⟨w1.heap.size + 1, 0, none⟩ : Option Addr) = some ⟨g, o, none⟩) => (show (Value.slice (some ⟨w1.heap.size + 2, 0, none⟩) 0 0).ownBlock ≠ some g ∧ g < W2.heap.size from by simp at e; obtain ⟨rfl, _⟩ := e; exact ⟨by simp [Value.ownBlock], by omega⟩)); have hbx1 : W2.heap[w1.heap.size]? = some (.cells #[.string pa, .slice pp pl pc] 33 (0, 0)) := (by rw [hW2]; exact block_below (heap_new w1 (.cells #[.string pa, .slice pp pl pc] 33) _ rfl) (((Below.refl (w1.alloc (.cells #[.string pa, .slice pp pl pc] 33)).heap.size _).alloc (Nat.le_refl _) _).alloc (by simp) _) (by simp)); have HBX := hid hbx1; have HW := hid hW2; have HBW := hid hbw; clear hW2 hbw ho hosz hbx1; have HD := hid (fun bp lp bn bc ln lc base W => HCL.out _ _ _ htr bp lp bn bc ln lc base W); clear htr))
      go_ret
      have hbW := hb1.trans (HBW.out.mono s1)
      have hb4 := hbW.grown HG4.out hbW.size (fun k e => by simp [Value.ownBlock] at e; omega)
      exact ⟨ret_str HYE.out.symm, hb4⟩

end Go.Proofs.YtapimaabijgaiaaDoor

namespace Go.Proofs.YtapimaabijgaiaaDoor
open Go.RowKit

set_option maxRecDepth 100000 in
set_option maxHeartbeats 2000000 in
theorem specSourceType_any (s : ByteArray) (hs : s.size ≤ 400000000) (w : World) : Calls Tryd.prog 4 #[.string s] w (TxPost (stT s) w) := by
  have HC := hid (fun W => l7Closed_any s hs W)
  have hx := stT_cl s
  obtain ⟨X, hX⟩ : ∃ X, clT s = X := ⟨_, rfl⟩
  rw [hX] at HC hx
  obtain ⟨D, hD⟩ : ∃ D, (X.toList == []) = D := ⟨_, rfl⟩
  rw [hD] at hx
  have HX := hid hx
  clear hX hx
  go_enter Tryd.func4, Tryd.ntmps4
  go_wp2_with (go_at_call 6; refine (HC.out _).mono ?_; rintro e w1 ⟨rfl, hb1⟩)
  go_ret2
  exact ⟨by rw [HX.out]; rfl, hb1⟩

set_option maxHeartbeats 1000000 in
theorem lawSourceType (s : ByteArray) (hs : s.size ≤ 9223372036854775807) (w : World) : Calls Tryd.prog 3 #[.string s] w fun e w' => e = .returned (.bool true) ∧ Below w.heap.size w w' := by
  by_cases h : s.size ≤ 1048576
  · have HA := hid (fun W => specSourceType_any s (by omega) W)
    have HB := hid (fun W => implSourceType_any s (by omega) W)
    obtain ⟨X, D, hX⟩ := txV_shape (stT s)
    have HP := hid (fun W e W' (h : TxPost (stT s) W e W') => (show e = .returned (.tuple #[.string X, .bool D]) ∧ Below W.heap.size W W' from by rw [← hX]; exact h))
    have hq : (!X.toList == X.toList) = false := by simp
    have hq2 : (D != D) = false := by simp
    clear hX
    go_enter Tryd.func3, Tryd.ntmps3
    go_wp2_with (first | (go_at_call 4; refine (HA.out _).mono ?_; rintro e w1 hp; obtain ⟨rfl, hb1⟩ := HP.out _ _ _ hp; clear hp) | (go_at_call 5; refine (HB.out _).mono ?_; rintro e w2 hp; obtain ⟨rfl, hb2⟩ := HP.out _ _ _ hp; clear hp))
    go_ret
    exact ⟨rfl, hb1.trans (hb2.mono hb1.size)⟩
  · have h2 : 1048576 < s.size := by omega
    clear h
    go_enter Tryd.func3, Tryd.ntmps3
    go_wp2
    go_ret
    exact ⟨rfl, Below.refl _ _⟩
end Go.Proofs.YtapimaabijgaiaaDoor
