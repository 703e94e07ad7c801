/- Expressions without effects: l7Pure of the model. -/
import Derived.Test.YtinlibkkbjfmeaaDoorSxR
import Derived.Test.YtinlibkkbjfmeaaDoorSxN
namespace Go.Proofs.YtinlibkkbjfmeaaDoor
open Go.RowKit

set_option maxRecDepth 100000 in
set_option maxHeartbeats 1000000 in
theorem l7Pure_eff (a hd : ByteArray) (pp : Option Addr) (l cap : Nat) (w : World)
    (hh : ∀ o, Calls Tryd.prog 41 #[.agg #[.string a, .slice pp l cap]] (w.alloc o) fun e w' => e = .returned (.string hd) ∧ Below (w.alloc o).heap.size (w.alloc o) w')
    (he : (hd.toList == [103, 101, 116]) = true ∨ (hd.toList == [112, 117, 116]) = true ∨ (hd.toList == [102, 97, 105, 108]) = true) :
    Calls Tryd.prog 24 #[.agg #[.string a, .slice pp l cap]] w fun e w' => e = .returned (.bool false) ∧ Below w.heap.size w w' := by
  have HH := hid hh
  clear hh
  cases e1 : hd.toList == [103, 101, 116] with
  | true =>
    clear he
    go_enter Tryd.func24, Tryd.ntmps24
    go_wp2_with (go_at_call 41; refine (HH.out _).mono ?_; rintro e w1 ⟨rfl, hb1⟩; have kc := cells_of_pair (block_below (heap_new w (.cells #[.string a, .slice pp l cap] 32) _ rfl) hb1 (by simp)))
    go_ret
    exact ⟨rfl, ((Below.refl _ _).alloc (Nat.le_refl _) _).trans (hb1.mono (by simp))⟩
  | false =>
    cases e2 : hd.toList == [112, 117, 116] with
    | true =>
      clear he
      go_enter Tryd.func24, Tryd.ntmps24
      go_wp2_with (go_at_call 41; refine (HH.out _).mono ?_; rintro e w1 ⟨rfl, hb1⟩; have kc := cells_of_pair (block_below (heap_new w (.cells #[.string a, .slice pp l cap] 32) _ rfl) hb1 (by simp)))
      go_ret
      exact ⟨rfl, ((Below.refl _ _).alloc (Nat.le_refl _) _).trans (hb1.mono (by simp))⟩
    | false =>
      have e3 : (hd.toList == [102, 97, 105, 108]) = true := by rcases he with h | h | h; (· rw [e1] at h; cases h); (· rw [e2] at h; cases h); (· exact h)
      clear he
      go_enter Tryd.func24, Tryd.ntmps24
      go_wp2_with (go_at_call 41; refine (HH.out _).mono ?_; rintro e w1 ⟨rfl, hb1⟩; have kc := cells_of_pair (block_below (heap_new w (.cells #[.string a, .slice pp l cap] 32) _ rfl) hb1 (by simp)))
      go_ret
      exact ⟨rfl, ((Below.refl _ _).alloc (Nat.le_refl _) _).trans (hb1.mono (by simp))⟩

/-- What the parts at a form's signs tell. -/
def slotP : Option Sx → Bool
  | some k => k.pure
  | none => true
set_option maxRecDepth 100000 in
set_option maxHeartbeats 4000000 in
theorem l7Pure_go {w0 : World} {a hd : ByteArray} {pp : Option Addr} {b l cap n : Nat} {A : Nat → Hd} {f : List Fg} {sl : List (Option Sx)} (hl : l ≤ 9223372036854775807) (hpp : n ≠ 0 → pp = some ⟨b, 0, none⟩ ∧ l = n + 1)
    (hA : ∀ i, i < n + 1 → n ≠ 0 → w0.cell? ⟨b, i * 2, none⟩ = some (.string (A i).a)) (hB : ∀ i, i < n + 1 → n ≠ 0 → w0.cell? ⟨b, i * 2 + 1, none⟩ = some (.slice (A i).p (A i).l (A i).c))
    (hf : shp7 hd.toList = lowS f) (hfn : f.length = n) (hsn : sl.length = n) (hn3 : n ≤ 3)
    (he : ∀ (i : Nat) (k : Sx), sl[i]? = some (some k) → f[i]? = some Fg.e ∧ ∀ W, Kept w0 W → w0.heap.size ≤ W.heap.size → Calls Tryd.prog 24 #[.agg #[.string (A (i + 1)).a, .slice (A (i + 1)).p (A (i + 1)).l (A (i + 1)).c]] W fun e w' => e = .returned (.bool k.pure) ∧ Below W.heap.size W w')
    (hx : ∀ (i : Nat), sl[i]? = some none → f[i]? ≠ some Fg.e)
    (w : World) (hk : Kept w0 w) (hw : w0.heap.size ≤ w.heap.size)
    (hh : ∀ o, Calls Tryd.prog 41 #[.agg #[.string a, .slice pp l cap]] (w.alloc o) fun e w' => e = .returned (.string hd) ∧ Below (w.alloc o).heap.size (w.alloc o) w')
    (e1 : (hd.toList == [103, 101, 116]) = false) (e2 : (hd.toList == [112, 117, 116]) = false) (e3 : (hd.toList == [102, 97, 105, 108]) = false) :
    Calls Tryd.prog 24 #[.agg #[.string a, .slice pp l cap]] w fun e w' => e = .returned (.bool (sl.all slotP)) ∧ Below w.heap.size w w' := by
  obtain ⟨P, hP⟩ : ∃ P, sl.all slotP = P := ⟨_, rfl⟩
  rw [hP]
  have HH := hid hh
  have HF := hid (fun W => (show Calls Tryd.prog 42 #[.string hd] W fun e w' => e = .returned (.string (lowS f)) ∧ W = w' from by
    have := l7Shape_any hd W
    rw [hf] at this; exact this))
  have hFs := lowS_size f
  have HFG := hid (fun i c h hi => lowS_get f i c h hi)
  obtain ⟨F, hF⟩ : ∃ F, lowS f = F := ⟨_, rfl⟩
  rw [hF] at HF hFs HFG
  rw [hfn] at hFs
  have f3 : F.size ≤ 3 := by omega
  have hFle : n ≤ F.size := by omega
  have hFge : F.size ≤ n := by omega
  have HPE := hid hP
  have HFN := hid hfn
  have HSN := hid hsn
  have HA := hid hA
  have HB := hid hB
  have HE := hid he
  have HX := hid hx
  have HPP := hid hpp
  have HK := hid hk
  clear hA hB he hx hk hP hfn hsn hf hFs hF hh hpp
  go_enter Tryd.func24, Tryd.ntmps24
  go_wp2_with (first | (go_at_call 41; refine (HH.out _).mono ?_; rintro e w1 ⟨rfl, hb1⟩; have kc := cells_of_pair (block_below (heap_new w (.cells #[.string a, .slice pp l cap] 32) _ rfl) hb1 (by simp))) | (go_at_call 42; refine (HF.out _).mono ?_; rintro e w2 ⟨rfl, rfl⟩))
  go_loopw [5] (fun u wr => ∃ i : Nat, i ≤ n ∧ u = .int .i64 (i : Int) ∧ Hid (P = (sl.drop i).all slotP) ∧ Below (w.heap.size + 1) (w.alloc (.cells #[.string a, .slice pp l cap] 32)) wr) (fun u _ => n - (intOf u).toNat)
  case atStart => exact ⟨0, Nat.zero_le _, rfl, by show _ = _; rw [List.drop_zero]; exact HPE.out.symm, hb1.mono (by simp)⟩
  case round =>
    obtain ⟨i, hi, rfl, hq, hbel⟩ := hrel
    have hz := hbel.size
    simp at hz
    have kc2 := cells_of_pair (block_below (heap_new w (.cells #[.string a, .slice pp l cap] 32) w.heap.size rfl) hbel (by omega))
    have kw : Kept w0 wr := (HK.out.alloc hw _).below hbel (by omega)
    have hwr : w0.heap.size ≤ wr.heap.size := by omega
    by_cases hlt : i < n
    · obtain ⟨rfl, rfl⟩ := HPP.out (by omega)
      have ca := kw.cell (HA.out (i + 1) (by omega) (by omega))
      have cb := kw.cell (HB.out (i + 1) (by omega) (by omega))
      have hiF : i < F.size := by omega
      obtain ⟨g, hcc⟩ : ∃ g, f[i]? = some g := ⟨_, List.getElem?_eq_getElem (by rw [HFN.out]; exact hlt)⟩
      have hFc := HFG.out i g hcc hiF
      obtain ⟨o, ho⟩ : ∃ o, sl[i]? = some o := ⟨_, List.getElem?_eq_getElem (by rw [HSN.out]; exact hlt)⟩
      have hst : P = (slotP o && (sl.drop (i + 1)).all slotP) := by rw [hq.out, drop_at ho, List.all_cons]
      have d2 : i + 1 < n + 1 := by omega
      cases o with
      | some k =>
        obtain ⟨hge, hc⟩ := HE.out i k ho
        rw [hcc] at hge
        have hge' := Option.some.inj hge
        subst hge'
        have hT : F[i].toNat = 101 := by rw [hFc]; rfl
        have HC := hid (hc wr kw hwr)
        obtain ⟨B, hBe⟩ : ∃ B, k.pure = B := ⟨_, rfl⟩
        rw [show slotP (some k) = k.pure from rfl, hBe] at hst
        rw [hBe] at HC
        have HST := hid hst
        clear hst hq ho hc hcc hFc hge kw hBe
        cases B with
        | false =>
          go_wp2_with (go_at_call 24; refine HC.out.mono ?_; rintro e w3 ⟨rfl, hb3⟩)
          go_ret
          exact ⟨ret_bool (by rw [HST.out]; rfl), ((Below.refl _ _).alloc (Nat.le_refl _) _).trans ((hbel.trans (hb3.mono (by omega))).mono (by omega))⟩
        | true =>
          go_wp2_with (go_at_call 24; refine HC.out.mono ?_; rintro e w3 ⟨rfl, hb3⟩)
          go_roundw
          case rel => exact ⟨i + 1, by omega, by go_num, by show _ = _; rw [HST.out, Bool.true_and], hbel.trans (hb3.mono (by omega))⟩
          case measure => simp [intOf]; omega
      | none =>
        have hge := HX.out i ho
        rw [hcc] at hge
        have HST := hid (show P = (sl.drop (i + 1)).all slotP by rw [hst]; rfl)
        cases g with
        | e => exact absurd rfl hge
        | x =>
          have hT : F[i].toNat = 120 := by rw [hFc]; rfl
          clear hst hq ho hcc hFc hge kw
          go_wp2_with fail
          go_roundw
          case rel => exact ⟨i + 1, by omega, by go_num, HST, hbel⟩
          case measure => simp [intOf]; omega
        | s =>
          have hT : F[i].toNat = 115 := by rw [hFc]; rfl
          clear hst hq ho hcc hFc hge kw
          go_wp2_with fail
          go_roundw
          case rel => exact ⟨i + 1, by omega, by go_num, HST, hbel⟩
          case measure => simp [intOf]; omega
    · have hpt : P = true := by rw [hq.out, List.drop_of_length_le (by rw [HSN.out]; omega)]; rfl
      have HPT := hid hpt
      clear hq hpt kw
      go_wp2_with fail
      go_ret
      exact ⟨ret_bool HPT.out.symm, ((Below.refl _ _).alloc (Nat.le_refl _) _).trans (hbel.mono (by omega))⟩

/-- THE MODEL's EXPRESSIONS WITHOUT EFFECTS. -/
theorem l7Pure_any {w0 : World} {S : Nat → Prop} (m : Sx) : ∀ {h : Hd}, TIn w0 S m.tree h → ∀ w, Kept w0 w → w0.heap.size ≤ w.heap.size →
    Calls Tryd.prog 24 #[.agg #[.string h.a, .slice h.p h.l h.c]] w fun e w' => e = .returned (.bool m.pure) ∧ Below w.heap.size w w' := by
  induction m with
  | name a =>
    intro h ht w hk hw
    have hh := fun o => l1Head_any ht (w.alloc o) (hk.alloc hw o)
    cases ht with
    | atom s hne hm =>
      exact l7Pure_go (w0 := w0) (b := 0) (n := 0) (A := fun _ => default) (f := []) (sl := []) (hd := ByteArray.empty) (Nat.zero_le _) (fun h => absurd rfl h) (fun _ _ h => absurd rfl h) (fun _ _ h => absurd rfl h) (by rw [empty_toList]; rfl) rfl rfl (by omega) (fun i k h => by simp at h) (fun i h => by simp at h) w hk hw hh (by rw [empty_toList]; rfl) (by rw [empty_toList]; rfl) (by rw [empty_toList]; rfl)
  | bit a =>
    intro h ht w hk hw
    have hh := fun o => l1Head_any ht (w.alloc o) (hk.alloc hw o)
    cases ht with
    | atom s hne hm =>
      exact l7Pure_go (w0 := w0) (b := 0) (n := 0) (A := fun _ => default) (f := []) (sl := []) (hd := ByteArray.empty) (Nat.zero_le _) (fun h => absurd rfl h) (fun _ _ h => absurd rfl h) (fun _ _ h => absurd rfl h) (by rw [empty_toList]; rfl) rfl rfl (by omega) (fun i k h => by simp at h) (fun i h => by simp at h) w hk hw hh (by rw [empty_toList]; rfl) (by rw [empty_toList]; rfl) (by rw [empty_toList]; rfl)
  | lam x s e ihe =>
    intro h ht w hk hw
    have hh := fun o => l1Head_any ht (w.alloc o) (hk.alloc hw o)
    cases ht with
    | node ps b cap A hp hl hc hS hA hB hps =>
      rw [show (Sx.lam x s e).pure = [none, none, some e].all slotP by simp [Sx.pure, slotP]]
      refine l7Pure_go (w0 := w0) (b := b) (n := 3) (A := A) (f := [.x, .s, .e]) (sl := [none, none, some e]) (hd := hLam) (by simp) (fun _ => ⟨rfl, rfl⟩) (fun i hi _ => hA i hi) (fun i hi _ => hB i hi) (by rw [hLam_l]; rfl) rfl rfl (by omega) ?_ ?_ w hk hw hh (by rw [hLam_l]; rfl) (by rw [hLam_l]; rfl) (by rw [hLam_l]; rfl)
      · intro i k hik
        match i, hik with
        | 0, hik => simp at hik
        | 1, hik => simp at hik
        | 2, hik => simp at hik; subst hik; exact ⟨rfl, fun W hkW hs => ihe (hps 3 _ rfl) W hkW hs⟩
        | i + 3, hik => simp at hik
      · intro i hik
        match i, hik with
        | 0, _ => simp
        | 1, _ => simp
        | 2, hik => simp at hik
        | i + 3, hik => simp at hik
  | app d e ihd ihe =>
    intro h ht w hk hw
    have hh := fun o => l1Head_any ht (w.alloc o) (hk.alloc hw o)
    cases ht with
    | node ps b cap A hp hl hc hS hA hB hps =>
      rw [show (Sx.app d e).pure = [some d, some e].all slotP by simp [Sx.pure, slotP]]
      refine l7Pure_go (w0 := w0) (b := b) (n := 2) (A := A) (f := [.e, .e]) (sl := [some d, some e]) (hd := hApp) (by simp) (fun _ => ⟨rfl, rfl⟩) (fun i hi _ => hA i hi) (fun i hi _ => hB i hi) (by rw [hApp_l]; rfl) rfl rfl (by omega) ?_ ?_ w hk hw hh (by rw [hApp_l]; rfl) (by rw [hApp_l]; rfl) (by rw [hApp_l]; rfl)
      · intro i k hik
        match i, hik with
        | 0, hik => simp at hik; subst hik; exact ⟨rfl, fun W hkW hs => ihd (hps 1 _ rfl) W hkW hs⟩
        | 1, hik => simp at hik; subst hik; exact ⟨rfl, fun W hkW hs => ihe (hps 2 _ rfl) W hkW hs⟩
        | i + 2, hik => simp at hik
      · intro i hik
        match i, hik with
        | 0, hik => simp at hik
        | 1, hik => simp at hik
        | i + 2, hik => simp at hik
  | iff d e g ihd ihe ihg =>
    intro h ht w hk hw
    have hh := fun o => l1Head_any ht (w.alloc o) (hk.alloc hw o)
    cases ht with
    | node ps b cap A hp hl hc hS hA hB hps =>
      rw [show (Sx.iff d e g).pure = [some d, some e, some g].all slotP by simp [Sx.pure, slotP]]
      refine l7Pure_go (w0 := w0) (b := b) (n := 3) (A := A) (f := [.e, .e, .e]) (sl := [some d, some e, some g]) (hd := hIf) (by simp) (fun _ => ⟨rfl, rfl⟩) (fun i hi _ => hA i hi) (fun i hi _ => hB i hi) (by rw [hIf_l]; rfl) rfl rfl (by omega) ?_ ?_ w hk hw hh (by rw [hIf_l]; rfl) (by rw [hIf_l]; rfl) (by rw [hIf_l]; rfl)
      · intro i k hik
        match i, hik with
        | 0, hik => simp at hik; subst hik; exact ⟨rfl, fun W hkW hs => ihd (hps 1 _ rfl) W hkW hs⟩
        | 1, hik => simp at hik; subst hik; exact ⟨rfl, fun W hkW hs => ihe (hps 2 _ rfl) W hkW hs⟩
        | 2, hik => simp at hik; subst hik; exact ⟨rfl, fun W hkW hs => ihg (hps 3 _ rfl) W hkW hs⟩
        | i + 3, hik => simp at hik
      · intro i hik
        match i, hik with
        | 0, hik => simp at hik
        | 1, hik => simp at hik
        | 2, hik => simp at hik
        | i + 3, hik => simp at hik
  | pair d e ihd ihe =>
    intro h ht w hk hw
    have hh := fun o => l1Head_any ht (w.alloc o) (hk.alloc hw o)
    cases ht with
    | node ps b cap A hp hl hc hS hA hB hps =>
      rw [show (Sx.pair d e).pure = [some d, some e].all slotP by simp [Sx.pure, slotP]]
      refine l7Pure_go (w0 := w0) (b := b) (n := 2) (A := A) (f := [.e, .e]) (sl := [some d, some e]) (hd := hPair) (by simp) (fun _ => ⟨rfl, rfl⟩) (fun i hi _ => hA i hi) (fun i hi _ => hB i hi) (by rw [hPair_l]; rfl) rfl rfl (by omega) ?_ ?_ w hk hw hh (by rw [hPair_l]; rfl) (by rw [hPair_l]; rfl) (by rw [hPair_l]; rfl)
      · intro i k hik
        match i, hik with
        | 0, hik => simp at hik; subst hik; exact ⟨rfl, fun W hkW hs => ihd (hps 1 _ rfl) W hkW hs⟩
        | 1, hik => simp at hik; subst hik; exact ⟨rfl, fun W hkW hs => ihe (hps 2 _ rfl) W hkW hs⟩
        | i + 2, hik => simp at hik
      · intro i hik
        match i, hik with
        | 0, hik => simp at hik
        | 1, hik => simp at hik
        | i + 2, hik => simp at hik
  | fst e ihe =>
    intro h ht w hk hw
    have hh := fun o => l1Head_any ht (w.alloc o) (hk.alloc hw o)
    cases ht with
    | node ps b cap A hp hl hc hS hA hB hps =>
      rw [show (Sx.fst e).pure = [some e].all slotP by simp [Sx.pure, slotP]]
      refine l7Pure_go (w0 := w0) (b := b) (n := 1) (A := A) (f := [.e]) (sl := [some e]) (hd := hFst) (by simp) (fun _ => ⟨rfl, rfl⟩) (fun i hi _ => hA i hi) (fun i hi _ => hB i hi) (by rw [hFst_l]; rfl) rfl rfl (by omega) ?_ ?_ w hk hw hh (by rw [hFst_l]; rfl) (by rw [hFst_l]; rfl) (by rw [hFst_l]; rfl)
      · intro i k hik
        match i, hik with
        | 0, hik => simp at hik; subst hik; exact ⟨rfl, fun W hkW hs => ihe (hps 1 _ rfl) W hkW hs⟩
        | i + 1, hik => simp at hik
      · intro i hik
        match i, hik with
        | 0, hik => simp at hik
        | i + 1, hik => simp at hik
  | snd e ihe =>
    intro h ht w hk hw
    have hh := fun o => l1Head_any ht (w.alloc o) (hk.alloc hw o)
    cases ht with
    | node ps b cap A hp hl hc hS hA hB hps =>
      rw [show (Sx.snd e).pure = [some e].all slotP by simp [Sx.pure, slotP]]
      refine l7Pure_go (w0 := w0) (b := b) (n := 1) (A := A) (f := [.e]) (sl := [some e]) (hd := hSnd) (by simp) (fun _ => ⟨rfl, rfl⟩) (fun i hi _ => hA i hi) (fun i hi _ => hB i hi) (by rw [hSnd_l]; rfl) rfl rfl (by omega) ?_ ?_ w hk hw hh (by rw [hSnd_l]; rfl) (by rw [hSnd_l]; rfl) (by rw [hSnd_l]; rfl)
      · intro i k hik
        match i, hik with
        | 0, hik => simp at hik; subst hik; exact ⟨rfl, fun W hkW hs => ihe (hps 1 _ rfl) W hkW hs⟩
        | i + 1, hik => simp at hik
      · intro i hik
        match i, hik with
        | 0, hik => simp at hik
        | i + 1, hik => simp at hik
  | get =>
    intro h ht w hk hw
    have hh := fun o => l1Head_any ht (w.alloc o) (hk.alloc hw o)
    obtain ⟨pa, pp, pl, pc⟩ := h
    exact l7Pure_eff pa hGet pp pl pc w hh (by rw [hGet_l]; simp)
  | put e _ =>
    intro h ht w hk hw
    have hh := fun o => l1Head_any ht (w.alloc o) (hk.alloc hw o)
    obtain ⟨pa, pp, pl, pc⟩ := h
    exact l7Pure_eff pa hPut pp pl pc w hh (by rw [hPut_l]; simp)
  | fail s =>
    intro h ht w hk hw
    have hh := fun o => l1Head_any ht (w.alloc o) (hk.alloc hw o)
    obtain ⟨pa, pp, pl, pc⟩ := h
    exact l7Pure_eff pa hFail pp pl pc w hh (by rw [hFail_l]; simp)
end Go.Proofs.YtinlibkkbjfmeaaDoor
