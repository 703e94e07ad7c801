/- Merged: FaultP, LtG. -/
import Derived.Test.YtfogjomebcponaaGreatDoorZGc37
import Derived.Test.YtfogjomebcponaaGreatDoorZG63
import Derived.Test.YtfogjomebcponaaGreatDoorZG56
namespace Go.Proofs.YtfogjomebcponaaGreatDoor
open Go.RowKit
set_option maxRecDepth 100000
set_option maxHeartbeats 2000000
def fau (s : ByteArray) : Option Tm := match readTm s with
 | some m => if m.free.length = 0 then m.flt [] else none
 | none => none
def fauTxt : Option Tm → ByteArray
 | some f => ⟨f.write.toArray⟩
 | none => ByteArray.empty
def FauPost (o : Option Tm) (w : World) (e : Ending) (w' : World) : Prop := e = .returned (.tuple #[.string (fauTxt o), .bool o.isSome]) ∧ Below w.heap.size w w'
theorem readTm_bytes8 {s : ByteArray} {m : Tm} (h : readTm s = some m) : ∃ t, parse s = some t ∧ t.tm [] = some m ∧ m.write = t.write ∧ m.write.length ≤ 12000 ∧ m.fit ∧ t.wk := by
 obtain ⟨t, hp, ht, _, _⟩ := rea h
 have hw := tm_write t [] m ht
 exact ⟨t, hp, ht, hw, by rw [hw]; exact (parse_wk hp).2.2, tm_fit t [] m ht, (parse_wk hp).1⟩
theorem fault_small {s : ByteArray} {m f : Tm} (h : readTm s = some m) (hf : m.flt [] = some f) : f.fit ∧ f.write.length ≤ 12000 := by
 obtain ⟨t, hp, ht, hw, hl, hfit, hwk⟩ := readTm_bytes8 h
 obtain ⟨tr, ar, h1, h2⟩ := (tm_flt t [] m [] ht).fault hf
 have h3 := flt_wk t [] tr h1 hwk
 exact ⟨flt_fit m [] f hf hfit, by rw [tm_write tr ar f h2]; rw [hw] at hl; omega⟩
theorem readTm_size8 {s : ByteArray} {m : Tm} (h : readTm s = some m) : m.size ≤ 100000 := by
 obtain ⟨t, _, _, _, h5⟩ := rea h
 omega
theorem implTermFault_any (s : ByteArray) (hs : s.size ≤ 400000000) (w : World) : Calls Tryz.prog 16 #[.string s] w (FauPost (fau s) w) := by
 have HR := hid (fun W => readTerm_any s hs W)
 unfold fau
 cases hr : readTm s with
 | none =>
  rw [hr] at HR
  clear hr
  go_enter Tryz.func16, Tryz.ntmps16
  go_wp2_with (go_at_call 29; refine (HR.out _).mono ?_; rintro e w1 hp; obtain ⟨rfl, hb1⟩ := hp.none; clear hp)
  go_ret2
  exact ⟨rfl, hb1⟩
 | some m =>
  rw [hr] at HR
  have HTOK := hid (readTm_tok hr)
  have HSM := hid (fun f hf => fault_small (f := f) hr hf)
  have HFR := hid (fun (w1 : World) (a : Nat) (hn : NIn w1 (fun _ => True) m a) => freeNames_any hn (readTm_size8 hr) w1 (Kept.refl _) (Nat.le_refl _))
  have hfl := free_length m
  have hsz := readTm_size8 hr
  obtain ⟨k, hk⟩ : ∃ k, m.free.length = k := ⟨_, rfl⟩
  show Calls _ _ _ w (FauPost (if m.free.length = 0 then m.flt [] else none) w)
  have HFR2 := hid (fun w1 a hn => (HFR.out w1 a hn).mono fun e w' (h : OwnS m.free w1 e w') => (show ∃ q c, e = .returned (.slice q k c) ∧ Below w1.heap.size w1 w' from by
   obtain ⟨q, c, he, hv, _, hb⟩ := h.full; rw [hk] at he; exact ⟨q, c, he, hb⟩))
  rw [hk]
  have hk2 : k ≤ 100000 := by omega
  clear hr HFR hfl hsz
  by_cases h0 : k = 0
  ·subst h0
   rw [if_pos rfl]
   have HFA := hid (fun (w1 w2 : World) (a : Nat) (hn : NIn w1 (fun _ => True) m a) (hb : Below w1.heap.size w1 w2) => faultIn_any (env := []) (pe := none) hn HTOK.out EIn.nil (fun x hx => by cases hx) hb)
   cases hty : m.typ [] with
   | some ty =>
    have hff : m.flt [] = none := by
     cases hf : m.flt [] with
     | none => rfl
     | some f => have := flt_some m [] f hf; rw [hty] at this; cases this
    rw [hff]
    have HFB := hid (fun w1 w2 a hn hb => (HFA.out w1 w2 a hn hb).mono fun e w' (h : FltPost w1 (fun _ => True) m [] w2 e w') => (show e = .returned (.tuple #[.pointer none, .bool false]) ∧ Below w2.heap.size w2 w' from by
     unfold FltPost at h; rw [hty] at h; exact ⟨h.2, h.1⟩))
    clear HFA hty hff
    go_enter Tryz.func16, Tryz.ntmps16
    go_wp2_with (first
     | (go_at_call 36; have _ := hb2; refine (HFB.out _ _ _ HN.out hb2).mono ?_; rintro e w3 ⟨rfl, hb3⟩)
     | (go_at_call 35; refine (HFR2.out _ _ HN.out).mono ?_; rintro e w2 ⟨q2, c2, rfl, hb2⟩)
     | (go_at_call 29; refine (HR.out _).mono ?_; rintro e w1 hp; obtain ⟨a, rfl, hb1, hn1⟩ := hp.some; have HN := hid (hn1.keep (fun _ _ _ => rfl) (fun _ _ _ => trivial)); clear hp hn1))
    go_ret2
    exact ⟨rfl, hb1.trans ((hb2.trans (hb3.mono hb2.size)).mono hb1.size)⟩
   | none =>
    cases hf : m.flt [] with
    | none => have := flt_none m [] hf; rw [hty] at this; cases this
    | some f =>
     obtain ⟨hfit, hlen⟩ := HSM.out f hf
     have HFB := hid (fun w1 w2 a hn hb => (HFA.out w1 w2 a hn hb).mono fun e w' (h : FltPost w1 (fun _ => True) m [] w2 e w') => (show ∃ b, e = .returned (.tuple #[.pointer (some ⟨b, 0, none⟩), .bool true]) ∧ NIn w1 (fun _ => True) f b ∧ Below w2.heap.size w2 w' from by
      unfold FltPost at h; rw [hty] at h
      obtain ⟨h1, f', b, h2, h3, h4⟩ := h
      rw [hf] at h2; obtain rfl := Option.some.inj h2
      exact ⟨b, h4, h3, h1⟩))
     have HTX := hid (fun (w1 w3 : World) (b : Nat) (hn : NIn w1 (fun _ => True) f b) (hb : Below w1.heap.size w1 w3) => text_any hn hfit hlen w3 (Kept.of_below hb (Nat.le_refl _)) hb.size)
     show Calls _ _ _ w (FauPost (some f) w)
     unfold FauPost
     rw [show fauTxt (some f) = ⟨f.write.toArray⟩ from rfl]
     obtain ⟨r, hrr⟩ : ∃ r : ByteArray, (⟨f.write.toArray⟩ : ByteArray) = r := ⟨_, rfl⟩
     rw [hrr] at HTX ⊢
     clear HFA hty hf hrr
     go_enter Tryz.func16, Tryz.ntmps16
     go_wp2_with (first
      | (go_at_call 37; have _ := hb3; refine (HTX.out _ _ _ HNF.out (hb2.trans (hb3.mono hb2.size))).mono ?_; rintro e w4 ⟨rfl, hb4⟩)
      | (go_at_call 36; have _ := hb2; refine (HFB.out _ _ _ HN.out hb2).mono ?_; rintro e w3 ⟨b3, rfl, hnf, hb3⟩; have HNF := hid hnf; clear hnf)
      | (go_at_call 35; refine (HFR2.out _ _ HN.out).mono ?_; rintro e w2 ⟨q2, c2, rfl, hb2⟩)
      | (go_at_call 29; refine (HR.out _).mono ?_; rintro e w1 hp; obtain ⟨a, rfl, hb1, hn1⟩ := hp.some; have HN := hid (hn1.keep (fun _ _ _ => rfl) (fun _ _ _ => trivial)); clear hp hn1))
     go_ret2
     exact ⟨rfl, hb1.trans ((hb2.trans ((hb3.trans (hb4.mono hb3.size)).mono hb2.size)).mono hb1.size)⟩
  ·rw [if_neg h0]
   have hkb : ((k : Int) != 0) = true := bne_iff_ne.2 (by omega)
   clear h0
   go_enter Tryz.func16, Tryz.ntmps16
   go_wp2_with (first
    | (go_at_call 35; refine (HFR2.out _ _ HN.out).mono ?_; rintro e w2 ⟨q2, c2, rfl, hb2⟩)
    | (go_at_call 29; refine (HR.out _).mono ?_; rintro e w1 hp; obtain ⟨a, rfl, hb1, hn1⟩ := hp.some; have HN := hid (hn1.keep (fun _ _ _ => rfl) (fun _ _ _ => trivial)); clear hp hn1))
   go_ret2
   exact ⟨rfl, hb1.trans (hb2.mono hb1.size)⟩
theorem lookR_app {s : List UInt8} {e2 : List (ByteArray × Ty)} {t : Ty} : ∀ l : List (ByteArray × Ty), lookR s l = some t → lookR s (l ++ e2) = some t
 | [], h => by rw [lookR] at h; cases h
 | (n, u) :: l, h => by
   rw [lookR] at h
   rw [List.cons_append, lookR]
   split
   ·rename_i c; rw [if_pos c] at h; exact h
   ·rename_i c; rw [if_neg c] at h; exact lookR_app l h
theorem envWith_app (env e2 : List (ByteArray × Ty)) (bs : List ByteArray) (ts : List Ty) : enw (env ++ e2) bs ts = enw env bs ts ++ e2 := by
 unfold enw; rw [List.append_assoc]
theorem joinT_app {h : List UInt8} {ty : Option Ty} {a : List UInt8} {env e2 : List (ByteArray × Ty)} {p0 p1 p2 : Option Ty} {t : Ty} (hj : joinT h ty a env p0 p1 p2 = some t) : joinT h ty a (env ++ e2) p0 p1 p2 = some t := by
 unfold joinT at hj ⊢
 by_cases c : h = [110, 97, 109, 101]
 ·rw [if_pos c] at hj ⊢; exact lookR_app env hj
 ·rw [if_neg c] at hj ⊢; exact hj
mutual
theorem typ_app (e2 : List (ByteArray × Ty)) : ∀ (m : Tm) (env : List (ByteArray × Ty)) (t : Ty), m.typ env = some t → m.typ (env ++ e2) = some t
 | .mk hd a d bs ty ks, env, t, h => by
  rw [Tm.typ] at h ⊢
  cases hp : Tm.typs hd.toList ty bs env [] ks with
  | none => rw [hp] at h; cases h
  | some ps =>
   rw [hp] at h
   rw [typs_app e2 hd.toList ty bs ks env [] ps hp]
   simp only at h ⊢
   obtain ⟨h1, h2⟩ := limT_some h
   rw [joinT_app h1, limT, if_pos h2]
theorem typs_app (e2 : List (ByteArray × Ty)) (h : List UInt8) (ty : Option Ty) (bs : List ByteArray) : ∀ (ks : List Tm) (env : List (ByteArray × Ty)) (acc l : List Ty), Tm.typs h ty bs env acc ks = some l → Tm.typs h ty bs (env ++ e2) acc ks = some l
 | [], env, acc, l, hh => by rw [Tm.typs] at hh ⊢; exact hh
 | k :: ks, env, acc, l, hh => by
  rw [Tm.typs] at hh ⊢
  cases hb : (if ks.isEmpty = true then bndT h ty acc[0]? else some []) with
  | none => rw [hb] at hh; cases hh
  | some bts =>
   rw [hb] at hh
   simp only at hh ⊢
   cases ht : Tm.typ (enw env (if ks.isEmpty = true then bs else []) bts) k with
   | none => rw [ht] at hh; cases hh
   | some t =>
    rw [ht] at hh
    rw [envWith_app, typ_app e2 k _ t ht]
    exact typs_app e2 h ty bs ks env (acc ++ [t]) l hh
end
theorem lookR_ne {s : List UInt8} : ∀ l : List (ByteArray × Ty), lookR s l ≠ none ↔ ∃ x ∈ l, x.1.toList = s
 | [] => by simp [lookR]
 | (n, u) :: l => by
   rw [lookR]
   by_cases c : n.toList = s
   ·rw [if_pos c]
    exact ⟨fun _ => ⟨(n, u), List.mem_cons_self .., c⟩, fun _ h => by cases h⟩
   ·rw [if_neg c, lookR_ne l]
    refine ⟨fun ⟨x, hx, e⟩ => ⟨x, List.mem_cons_of_mem _ hx, e⟩, fun ⟨x, hx, e⟩ => ?_⟩
    rcases List.mem_cons.1 hx with rfl | hx
    ·exact absurd e c
    ·exact ⟨x, hx, e⟩
theorem hasB_ex {s : List UInt8} {B : List ByteArray} : hasB B s = true ↔ ∃ x ∈ B, x.toList = s := by
 induction B with
 | nil => simp [hasB]
 | cons y B ih =>
  rw [hasB_cons, Bool.or_eq_true, ih]
  constructor
  ·rintro (h | ⟨x, hx, e⟩)
   ·exact ⟨y, List.mem_cons_self .., by simpa using h⟩
   ·exact ⟨x, List.mem_cons_of_mem _ hx, e⟩
  ·rintro ⟨x, hx, e⟩
   rcases List.mem_cons.1 hx with rfl | hx
   ·left; simpa using e
   ·exact Or.inr ⟨x, hx, e⟩
theorem zip_fst {bs : List ByteArray} {ts : List Ty} (hl : bs.length = ts.length) {x : ByteArray} (hx : x ∈ bs) : ∃ t, (x, t) ∈ bs.zip ts := by
 induction bs generalizing ts with
 | nil => cases hx
 | cons b bs ih =>
  cases ts with
  | nil => simp at hl
  | cons t ts =>
   rcases List.mem_cons.1 hx with rfl | hx
   ·exact ⟨t, List.mem_cons_self ..⟩
   ·obtain ⟨u, hu⟩ := ih (by simpa using hl) hx
    exact ⟨u, List.mem_cons_of_mem _ hu⟩
theorem lookR_with {env : List (ByteArray × Ty)} {B bs : List ByteArray} {ts : List Ty} (hl : bs.length = ts.length) (he : ∀ s, hasB B s = true → lookR s env ≠ none) (s : List UInt8) (hs : hasB (B ++ bs) s = true) : lookR s (enw env bs ts) ≠ none := by
 obtain ⟨x, hx, e⟩ := hasB_ex.1 hs
 rw [lookR_ne]
 unfold enw
 rcases List.mem_append.1 hx with hx | hx
 ·obtain ⟨y, hy, ey⟩ := (lookR_ne env).1 (he s (hasB_ex.2 ⟨x, hx, e⟩))
  exact ⟨y, List.mem_append_right _ hy, ey⟩
 ·obtain ⟨t, ht⟩ := zip_fst hl hx
  exact ⟨(x, t), List.mem_append_left _ (List.mem_reverse.2 ht), e⟩
mutual
def Tm.cov : Tm → List ByteArray → Prop
 | .mk hd a _ bs _ ks, B => (hd.toList = [110, 97, 109, 101] → hasB B a.toList = true) ∧ Tm.covs ks B (B ++ bs)
def Tm.covs : List Tm → List ByteArray → List ByteArray → Prop
 | [], _, _ => True
 | k :: ks, B, B2 => (k.cov (if ks.isEmpty = true then B2 else B)) ∧ Tm.covs ks B B2
end
theorem hasB_appG (a b : List ByteArray) (s : List UInt8) : hasB (a ++ b) s = (hasB a s || hasB b s) := by
 induction a with
 | nil => show hasB b s = (false || hasB b s); rw [Bool.false_or]
 | cons x a ih => rw [List.cons_append, hasB_cons, hasB_cons, ih, Bool.or_assoc]
mutual
theorem cov_mono : ∀ (m : Tm) (B C : List ByteArray), (∀ s, hasB B s = true → hasB C s = true) → m.cov B → m.cov C
 | .mk hd a d bs ty ks, B, C, hBC, h => by
  rw [Tm.cov] at h ⊢
  refine ⟨fun e => hBC _ (h.1 e), covs_mono ks B C (B ++ bs) (C ++ bs) hBC (fun s hs => ?_) h.2⟩
  rw [hasB_appG] at hs ⊢
  simp only [Bool.or_eq_true] at hs ⊢
  exact hs.imp (hBC s) id
theorem covs_mono : ∀ (ks : List Tm) (B C B2 C2 : List ByteArray), (∀ s, hasB B s = true → hasB C s = true) → (∀ s, hasB B2 s = true → hasB C2 s = true) → Tm.covs ks B B2 → Tm.covs ks C C2
 | [], _, _, _, _, _, _, _ => by rw [Tm.covs]; trivial
 | k :: ks, B, C, B2, C2, h1, h2, h => by
  rw [Tm.covs] at h ⊢
  refine ⟨?_, covs_mono ks B C B2 C2 h1 h2 h.2⟩
  cases e : ks.isEmpty with
  | true => rw [e] at h; exact cov_mono k B2 C2 h2 h.1
  | false => rw [e] at h; exact cov_mono k B C h1 h.1
end
theorem covs_of {B B2 : List ByteArray} : ∀ ks : List Tm, (∀ i k, ks[i]? = some k → (i + 1 < ks.length → k.cov B) ∧ k.cov B2) → Tm.covs ks B B2
 | [], _ => by rw [Tm.covs]; trivial
 | k :: ks, h => by
  rw [Tm.covs]
  refine ⟨?_, covs_of ks (fun i x hx => ?_)⟩
  ·have h0 := h 0 k rfl
   cases ks with
   | nil => exact h0.2
   | cons y ks => exact h0.1 (by simp)
  ·have := h (i + 1) x (by simpa using hx)
   exact ⟨fun hl => this.1 (by simp; omega), this.2⟩
def CovOk (p : Tree) : Prop := ∀ bd m, p.tm bd = some m → p.free bd = [] → m.cov bd
theorem cov_app {m : Tm} {bd : List ByteArray} (h : m.cov bd) (x : List ByteArray) : m.cov (bd ++ x) :=
 cov_mono m bd (bd ++ x) (fun s hs => by rw [hasB_appG, hs]; rfl) h
theorem parts_cov (bd : List ByteArray) (xs : List ByteArray) : ∀ (cs : List Sg) (ps : List Tree) (st st' : St) (b : Bool), (∀ p ∈ ps, CovOk p) → cs.length = ps.length → goodSh cs b = true → (b = false → st.binds = []) → xs = st.binds ++ xsOf cs ps → Tree.frees bd xs cs ps = [] →
    Tree.parts bd cs ps st = some st' → (∀ k ∈ st.kids, k.cov bd) → ∀ i k, st'.kids[i]? = some k → (i + 1 < st'.kids.length → k.cov bd) ∧ k.cov (bd ++ st'.binds)
 | [], [], st, st', b, _, _, _, _, _, _, h, hc => by
  simp [Tree.parts] at h
  subst h
  exact fun i k hk => ⟨fun _ => hc k (List.mem_of_getElem? hk), cov_app (hc k (List.mem_of_getElem? hk)) _⟩
 | c :: cs, p :: ps, st, st', b, ih, hl, hg, hb, hx, hfr, h, hc => by
  have ih' : ∀ p ∈ ps, CovOk p := fun q hq => ih q (List.mem_cons_of_mem _ hq)
  have hl' : cs.length = ps.length := by simpa using hl
  rw [Tree.frees, List.append_eq_nil_iff] at hfr
  have kid : ∀ w, xsOf (c :: cs) (p :: ps) = xsOf cs ps → c.isK = true → ((cs.isEmpty || !b) && goodSh cs b) = true →
      (Tree.parts bd (c :: cs) (p :: ps) st = (match addK w (p.tm (bd ++ st.binds)) st with | some st' => Tree.parts bd cs ps st' | none => none)) → ∀ i k, st'.kids[i]? = some k → (i + 1 < st'.kids.length → k.cov bd) ∧ k.cov (bd ++ st'.binds) := by
   intro w hxo hk hgg hp
   rw [hp] at h
   cases h1 : addK w (p.tm (bd ++ st.binds)) st with
   | none => rw [h1] at h; simp at h
   | some st1 =>
    rw [h1] at h
    simp only at h
    obtain ⟨m, ht, h3⟩ := adk h1
    simp only [Bool.and_eq_true, Bool.or_eq_true] at hgg
    have hb1 : st1.binds = st.binds := by rw [h3]
    have hk1 : st1.kids = st.kids ++ [m] := by rw [h3]
    have hf := hfr.1
    rw [if_pos hk] at hf
    by_cases hce : cs = []
    ·rw [if_pos hce] at hf
     have hxb : xs = st.binds := by
      subst hce
      match ps, hl' with
      | [], _ => rw [hx, hxo]; simp [xsOf]
     rw [hxb] at hf
     have hm := ih p (List.mem_cons_self ..) _ _ ht hf
     subst hce
     have e1 : st' = st1 := by
      match ps, hl' with
      | [], _ => simp [Tree.parts] at h; exact h.symm
     subst e1
     intro i k hi
     rw [hk1] at hi ⊢
     rw [hb1]
     by_cases hil : i < st.kids.length
     ·rw [List.getElem?_append_left hil] at hi
      have := hc k (List.mem_of_getElem? hi)
      exact ⟨fun _ => this, cov_app this _⟩
     ·have hi2 : i = st.kids.length := by
        have := (List.getElem?_eq_some_iff.1 hi).1
        simp at this; omega
      subst hi2
      rw [List.getElem?_append_right (Nat.le_refl _)] at hi
      simp at hi; subst hi
      exact ⟨fun h => by simp at h, hm⟩
    ·rw [if_neg hce] at hf
     have hbf : b = false := by
      rcases hgg.1 with h | h
      ·simp at h; exact absurd h hce
      ·simpa using h
     have hsb := hb hbf
     rw [hsb, List.append_nil] at ht
     have hm := ih p (List.mem_cons_self ..) _ _ ht hf
     refine parts_cov bd xs cs ps st1 st' b ih' hl' hgg.2 (fun e => by rw [hb1]; exact hb e) (by rw [hb1, hx, hxo]) hfr.2 h (fun k hk => ?_)
     rw [hk1] at hk
     rcases List.mem_append.1 hk with hk | hk
     ·exact hc k hk
     ·simp at hk; subst hk; exact hm
  cases c with
  | X =>
   rw [Tree.parts] at h
   cases h1 : addX p.text st with
   | none => rw [h1] at h; simp at h
   | some st1 =>
    rw [h1] at h
    have h2 := adx h1
    exact parts_cov bd xs cs ps st1 st' true ih' hl' (by simpa [goodSh] using hg) (by simp) (by rw [hx, h2.2]; simp [xsOf]) hfr.2 h (by rw [h2.2]; exact hc)
  | A =>
   rw [Tree.parts] at h
   cases h1 : addT true p st with
   | none => rw [h1] at h; simp at h
   | some st1 =>
    rw [h1] at h
    obtain ⟨ty, ht, h2⟩ := adt h1
    exact parts_cov bd xs cs ps st1 st' b ih' hl' (by simpa [goodSh] using hg) (fun e => by rw [h2]; exact hb e) (by rw [hx, h2]; simp [xsOf]) hfr.2 h (by rw [h2]; exact hc)
  | C =>
   rw [Tree.parts] at h
   cases h1 : addT false p st with
   | none => rw [h1] at h; simp at h
   | some st1 =>
    rw [h1] at h
    obtain ⟨ty, ht, h2⟩ := adt h1
    exact parts_cov bd xs cs ps st1 st' b ih' hl' (by simpa [goodSh] using hg) (fun e => by rw [h2]; exact hb e) (by rw [hx, h2]; simp [xsOf]) hfr.2 h (by rw [h2]; exact hc)
  | V => exact kid true (by simp [xsOf]) rfl (by simpa only [goodSh] using hg) (by rw [Tree.parts]; rfl)
  | M => exact kid false (by simp [xsOf]) rfl (by simpa only [goodSh] using hg) (by rw [Tree.parts]; rfl)
theorem cov_tm (t : Tree) : CovOk t := by
 intro bd m h hf
 match t with
 | .atom x =>
  rw [Tree.tm, atomTm] at h
  split at h
  ·simp at h; subst h
   rw [Tm.cov, Tm.covs]
   exact ⟨fun e => by rw [stb] at e; exact absurd e (by decide), trivial⟩
  ·split at h
   ·rename_i c
    simp at h; subst h
    rw [Tree.free] at hf
    rw [Tm.cov, Tm.covs]
    refine ⟨fun _ => ?_, trivial⟩
    cases e : hasB bd x.toList with
    | true => rfl
    | false => rw [if_pos ⟨c, e⟩] at hf; simp at hf
   ·simp at h
 | .node [] => rw [Tree.tm] at h; simp at h
 | .node (q :: ps) =>
  obtain ⟨st, h1, h2, h3, rfl⟩ := tmn h
  rw [Tree.free] at hf
  have := parts_cov bd (xsOf (shape q.text.toList) ps) _ ps St.none st false (fun p hp => cov_tm p) h2 (shape_good _) (fun _ => rfl) (by simp [St.none]) hf h3 (fun k hk => by simp [St.none] at hk)
  rw [Tm.cov]
  refine ⟨fun e => ?_, covs_of _ this⟩
  rw [e] at h1
  exact absurd (by decide) h1
termination_by t
decreasing_by
 have := List.sizeOf_lt_of_mem hp
 simp; omega
theorem leaf_typ {hd a : ByteArray} {ty : Option Ty} {env : List (ByteArray × Ty)} {B : List ByteArray} (hH : headB hd.toList = true) (hl : 0 = arity hd.toList) (hty : (shape hd.toList).countP Sg.isT ≠ 0 → ty ≠ none) (hs : ∀ t, ty = some t → t.atoms ≤ 12) (he : EnvS env)
    (hc : hd.toList = [110, 97, 109, 101] → hasB B a.toList = true) (hB : ∀ s, hasB B s = true → lookR s env ≠ none) : (limT (joinT hd.toList ty a.toList env none none none)).isSome = true := by
 have lim : ∀ t : Ty, t.atoms ≤ 12 → (limT (some t)).isSome = true := fun t ht => by rw [limT, if_pos ht]; rfl
 by_cases c1 : hd.toList = [110, 97, 109, 101]
 ·have h1 := hB _ (hc c1)
  have e : joinT hd.toList ty a.toList env none none none = lookR a.toList env := by unfold joinT; rw [if_pos c1]
  rw [e]
  cases hl2 : lookR a.toList env with
  | none => exact absurd hl2 h1
  | some t => exact lim t (lookR_small he hl2)
 by_cases c2 : hd.toList = [98, 105, 116]
 ·have e : joinT hd.toList ty a.toList env none none none = some .bit := by unfold joinT; rw [if_neg c1, if_pos c2]
  rw [e]; exact lim .bit (by decide)
 have hs2 : shape hd.toList ≠ [] := by
  intro e
  unfold headB at hH
  rw [e] at hH
  simp [c1, c2] at hH
 have hm := heads_mem hs2
 simp only [headL, List.mem_cons, List.mem_nil_iff, or_false] at hm
 rcases hm with e | e | e | e | e | e | e | e | e | e | e | e | e | e | e | e <;> rw [e] at hl hty ⊢ <;> first
  | exact absurd hl (by decide)
  | (cases ty with
     | none => exact absurd rfl (hty (by decide))
     | some t => exact lim t (hs t rfl))
mutual
theorem flt_ks : ∀ (m : Tm) (env : List (ByteArray × Ty)) (B : List ByteArray) (f : Tm), m.flt env = some f → m.tok → m.cov B → EnvS env → (∀ s, hasB B s = true → lookR s env ≠ none) → f.ks ≠ []
 | .mk hd a d bs ty [], env, B, f, h, ht, hc, he, hB => by
  rw [Tm.flt, Tm.flts] at h
  rw [Tm.tok] at ht
  rw [Tm.cov] at hc
  have := leaf_typ (a := a) ht.1 ht.2.1 ht.2.2.2.1 ht.2.2.2.2.1 he hc.1 hB
  have e : ([] : List Ty)[0]? = none ∧ ([] : List Ty)[1]? = none ∧ ([] : List Ty)[2]? = none := ⟨rfl, rfl, rfl⟩
  rw [e.1, e.2.1, e.2.2, if_pos this] at h
  cases h
 | .mk hd a d bs ty (k :: ks), env, B, f, h, ht, hc, he, hB => by
  rw [Tm.flt] at h
  rw [Tm.tok] at ht
  rw [Tm.cov] at hc
  exact flts_ks (.mk hd a d bs ty (k :: ks)) (by simp [Tm.ks]) hd.toList a.toList ty bs env B ht.2.2.1 ht.2.2.2.2.1 he hB (k :: ks) [] f h ht.2.2.2.2.2 hc.2 (fun t ht => by cases ht)
theorem flts_ks (self : Tm) (hs : self.ks ≠ []) (h a : List UInt8) (ty : Option Ty) (bs : List ByteArray) (env : List (ByteArray × Ty)) (B : List ByteArray) (hbl : bs.length = (shape h).countP Sg.isX) (hty : ∀ t, ty = some t → t.atoms ≤ 12) (he : EnvS env) (hB : ∀ s, hasB B s = true → lookR s env ≠ none) :
    ∀ (ks : List Tm) (acc : List Ty) (f : Tm), Tm.flts self h a ty bs env acc ks = some f → Tm.toks ks → Tm.covs ks B (B ++ bs) → (∀ t ∈ acc, t.atoms ≤ 12) → f.ks ≠ []
 | [], acc, f, hh, _, _, _ => by
  rw [Tm.flts] at hh
  split at hh
  ·cases hh
  ·obtain rfl := Option.some.inj hh; exact hs
 | k :: ks, acc, f, hh, ht, hc, ha => by
  rw [Tm.flts] at hh
  rw [Tm.toks] at ht
  rw [Tm.covs] at hc
  cases hb : (if ks.isEmpty = true then bndT h ty acc[0]? else some []) with
  | none => rw [hb] at hh; obtain rfl := Option.some.inj hh; exact hs
  | some bts =>
   rw [hb] at hh
   simp only at hh
   have hsm : EnvS (enw env (if ks.isEmpty = true then bs else []) bts) := by
    refine envWith_small he _ _ (fun t htb => ?_)
    cases e : ks.isEmpty with
    | true =>
     rw [e, if_pos rfl] at hb
     exact bndT_small hb (fun t h0 => ha t (List.mem_of_getElem? h0)) hty t htb
    | false =>
     rw [e, if_neg (by decide)] at hb
     obtain rfl := Option.some.inj hb
     cases htb
   cases htp : Tm.typ (enw env (if ks.isEmpty = true then bs else []) bts) k with
   | none =>
    rw [htp] at hh
    refine flt_ks k _ _ f hh ht.1 hc.1 hsm (fun s hs2 => ?_)
    cases e : ks.isEmpty with
    | true =>
     rw [e, if_pos rfl] at hb hs2
     rw [if_pos rfl]
     exact lookR_with (by rw [hbl]; exact (bndT_len hb).symm) hB s hs2
    | false =>
     rw [e, if_neg (by decide)] at hb hs2
     obtain rfl := Option.some.inj hb
     rw [if_neg (by decide)]
     exact hB s hs2
   | some t =>
    rw [htp] at hh
    refine flts_ks self hs h a ty bs env B hbl hty he hB ks (acc ++ [t]) f hh ht.2 hc.2 (fun x hx => ?_)
    rcases List.mem_append.1 hx with hx | hx
    ·exact ha x hx
    ·simp at hx; subst hx
     cases k with
     | mk hd2 a2 d2 bs2 ty2 ks2 =>
      rw [Tm.typ] at htp
      cases hps : Tm.typs hd2.toList ty2 bs2 (enw env (if ks.isEmpty = true then bs else []) bts) [] ks2 with
      | none => rw [hps] at htp; cases htp
      | some l => rw [hps] at htp; exact (limT_some htp).2
end
theorem flt_sub (t : Tree) (env : List (ByteArray × Ty)) (tr : Tree) (h : t.flt env = some tr) : tr.dp ≤ t.dp ∧ tr.size ≤ t.size ∧ ∃ env', tr.typ env' = none := by
 match t, h with
 | .atom s, h =>
  rw [Tree.flt] at h
  split at h
  ·cases h
  ·rename_i c
   obtain rfl := Option.some.inj h
   exact ⟨Nat.le_refl _, Nat.le_refl _, env, by simpa using c⟩
 | .node [], h => rw [Tree.flt] at h; cases h
 | .node (q :: ps), h =>
  rw [Tree.flt] at h
  split at h
  ·cases h
  ·rename_i c
   have h' := Option.some.inj h
   rcases flts_cases (.node (q :: ps)) q.text.toList (tyIn (shape q.text.toList) ps) (xsOf (shape q.text.toList) ps) env (shape q.text.toList) ps none with e | ⟨p, hp, env', e⟩
   ·rw [← h', e]; exact ⟨Nat.le_refl _, Nat.le_refl _, env, by simpa using c⟩
   ·rw [h'] at e
    obtain ⟨h1, h2, h3⟩ := flt_sub p env' tr e
    refine ⟨Nat.le_trans h1 ?_, Nat.le_trans h2 ?_, h3⟩
    ·have := dps_mem.1 (Nat.le_refl (Tree.dps (q :: ps))) p (List.mem_cons_of_mem _ hp)
     rw [Tree.dp]; omega
    ·obtain ⟨i, hi⟩ := List.getElem?_of_mem hp
     have h5 := size_part ps i p hi
     rw [Tree.size, Tree.sizes]; omega
termination_by t
decreasing_by
 have := List.sizeOf_lt_of_mem hp
 simp; omega
def hdG : Tm → ByteArray
 | .mk hd _ _ _ _ _ => hd
theorem tm_hd {t : Tree} {a b : List ByteArray} {f g : Tm} (h : t.tm a = some f) (k : t.tm b = some g) : hdG f = hdG g := by
 match t with
 | .atom s =>
  rw [Tree.tm, atomTm] at h k
  split at h
  ·rename_i c; rw [if_pos c] at k; simp at h k; subst h; subst k; rfl
  ·rename_i c
   rw [if_neg c] at k
   split at h
   ·rename_i c2; rw [if_pos c2] at k; simp at h k; subst h; subst k; rfl
   ·simp at h
 | .node [] => rw [Tree.tm] at h; simp at h
 | .node (q :: ps) =>
  obtain ⟨_, _, _, _, rfl⟩ := tmn h
  obtain ⟨_, _, _, _, rfl⟩ := tmn k
  rfl
theorem typ_env0 {m : Tm} {env : List (ByteArray × Ty)} (h : m.typ env = none) : m.typ [] = none := by
 cases e : m.typ [] with
 | none => rfl
 | some t =>
  have := typ_app env m [] t e
  rw [List.nil_append, h] at this; cases this
theorem fault_facts {s : ByteArray} {f : Tm} (h : fau s = some f) :
    ∃ m f', readTm s = some m ∧ readTm (fauTxt (some f)) = some f' ∧ (fauTxt (some f)).size ≤ 12000 ∧ f'.ks ≠ [] ∧ f'.size ≤ m.size ∧ typOf [] [] s = none ∧ typOf [] [] (fauTxt (some f)) = none := by
 unfold fau at h
 cases hr : readTm s with
 | none => rw [hr] at h; cases h
 | some m =>
  rw [hr] at h
  simp only at h
  split at h
  ·rename_i hfr
   obtain ⟨t, hp, ht, hts, _⟩ := rea hr
   obtain ⟨hw, hd, hl⟩ := parse_wk hp
   obtain ⟨tr, ar, h1, h2⟩ := (tm_flt t [] m [] ht).fault h
   obtain ⟨k1, k2⟩ := flt_wk t [] tr h1 hw
   obtain ⟨g1, g2, env', g3⟩ := flt_sub t [] tr h1
   have hff := tm_write tr ar f h2
   have hda : (fauTxt (some f)).data.toList = tr.write := by show f.write.toArray.toList = _; rw [hff]
   have hv := tm_isVal tr ar
   have hv0 := tm_isVal tr []
   rw [h2] at hv
   cases hk' : tr.tm [] with
   | none => rw [hk'] at hv0; rw [← hv0] at hv; simp at hv
   | some f' =>
    have hrd := read_back k1 (by omega) (by omega) (by omega) hk' hda
    have hz1 := tm_size tr [] f' hk'
    have hz2 := tm_size t [] m ht
    have hks : f.ks ≠ [] := by
     have hcv := cov_tm t [] m ht (by rw [← tm_free t [] m ht]; exact List.length_eq_zero_iff.1 hfr)
     exact flt_ks m [] [] f h (tm_tok t [] m ht) hcv (fun x hx => by cases hx) (fun s hs => by simp [hasB] at hs)
    have hks2 : f'.ks ≠ [] := by
     have t1 := tm_tok tr ar f h2
     have t2 := tm_tok tr [] f' hk'
     have t3 := tm_hd h2 hk'
     cases f with
     | mk hd a d bs ty ks =>
      cases f' with
      | mk hd2 a2 d2 bs2 ty2 ks2 =>
       rw [Tm.tok] at t1 t2
       have e1 : hd = hd2 := t3
       have l1 := t1.2.1
       have l2 := t2.2.1
       rw [← e1, ← l1] at l2
       intro e
       have e2 : ks2 = [] := e
       rw [e2] at l2
       exact hks (List.length_eq_zero_iff.1 l2.symm)
    have hsz : (fauTxt (some f)).size ≤ 12000 := by
     have : (fauTxt (some f)).size = (fauTxt (some f)).data.toList.length := rfl
     rw [this, hda]; omega
    refine ⟨m, f', rfl, hrd, hsz, hks2, by omega, ?_, ?_⟩
    ·have : t.typ [] = none := by
       match t, h1 with
       | .atom s, h1 =>
        rw [Tree.flt] at h1
        split at h1
        ·cases h1
        ·rename_i c; simpa using c
       | .node [], h1 => rw [Tree.flt] at h1; cases h1
       | .node (q :: ps), h1 =>
        rw [Tree.flt] at h1
        split at h1
        ·cases h1
        ·rename_i c; simpa using c
     rw [← tm_typ t [] m [] ht] at this
     unfold typOf
     rw [hr]
     exact this
    ·have : f'.typ [] = none := by
       rw [tm_typ tr [] f' [] hk', ← tm_typ tr ar f [] h2]
       exact typ_env0 (by rw [tm_typ tr ar f env' h2]; exact g3)
     unfold typOf
     rw [hrd]
     exact this
  ·cases h
end Go.Proofs.YtfogjomebcponaaGreatDoor
