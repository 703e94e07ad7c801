/- Merged: ZGSFltW, ZG54. -/
import Derived.Test.YtfogjomebcponaaGreatDoorZG27
import Derived.Test.YtfogjomebcponaaGreatDoorZG51
import Derived.Test.YtfogjomebcponaaGreatDoorZG29
import Derived.Test.YtfogjomebcponaaGreatDoorZGc19
namespace Go.Proofs.YtfogjomebcponaaGreatDoor
open Go.RowKit
set_option maxRecDepth 100000
set_option maxHeartbeats 2000000
theorem flts_cases (T : Tree) (h : List UInt8) (ty : Option Ty) (xs : List ByteArray) (env : List (ByteArray × Ty)) : ∀ (cs : List Sg) (ps : List Tree) (fo : Option Ty), Tree.flts T h ty xs env fo cs ps = T ∨ ∃ p ∈ ps, ∃ env', Tree.flt env' p = some (Tree.flts T h ty xs env fo cs ps)
 | [], ps, fo => by left; rw [Tree.flts]
 | c :: cs, [], fo => by left; rw [Tree.flts]
 | c :: cs, p :: ps, fo => by
  have up : ∀ fo', (Tree.flts T h ty xs env fo' cs ps = T ∨ ∃ p ∈ ps, ∃ env', Tree.flt env' p = some (Tree.flts T h ty xs env fo' cs ps)) → (Tree.flts T h ty xs env fo' cs ps = T ∨ ∃ q ∈ p :: ps, ∃ env', Tree.flt env' q = some (Tree.flts T h ty xs env fo' cs ps)) := by
   rintro fo' (e | ⟨q, hq, e⟩)
   ·exact .inl e
   ·exact .inr ⟨q, List.mem_cons_of_mem _ hq, e⟩
  rw [Tree.flts]
  by_cases hk : c.isK = true
  ·rw [if_pos hk]
   cases hb : (if cs.isEmpty = true then bndT h ty fo else some []) with
   | none => left; rfl
   | some bts =>
    simp only
    cases hf : Tree.flt (enw env (if cs.isEmpty = true then xs else []) bts) p with
    | none => exact up _ (flts_cases T h ty xs env cs ps _)
    | some f => right; exact ⟨p, List.mem_cons_self .., _, hf⟩
  ·rw [if_neg hk]
   exact up _ (flts_cases T h ty xs env cs ps _)
theorem join_mem {ps : List Tree} {p : Tree} (h : p ∈ ps) : p.write.length ≤ (Tree.join ps).length := by
 obtain ⟨i, hi, rfl⟩ := List.mem_iff_getElem.1 h
 exact join_part ps i _ (List.getElem?_eq_getElem hi)
theorem flt_wk (t : Tree) (env : List (ByteArray × Ty)) (tr : Tree) (h : t.flt env = some tr) (hw : t.wk) : tr.wk ∧ tr.write.length ≤ t.write.length := by
 match t, h, hw with
 | .atom s, h, hw =>
  rw [Tree.flt] at h
  split at h
  ·cases h
  ·obtain rfl := Option.some.inj h; exact ⟨hw, Nat.le_refl _⟩
 | .node [], h, hw => rw [Tree.flt] at h; cases h
 | .node (q :: ps), h, hw =>
  rw [Tree.flt] at h
  split at h
  ·cases h
  ·have h' := Option.some.inj h
   rcases flts_cases (.node (q :: ps)) q.text.toList (tyIn (shape q.text.toList) ps) (xsOf (shape q.text.toList) ps) env (shape q.text.toList) ps none with e | ⟨p, hp, env', e⟩
   ·rw [← h', e]; exact ⟨hw, Nat.le_refl _⟩
   ·rw [h'] at e
    have hwp : p.wk := by
     rw [Tree.wk] at hw
     exact wks_mem hw.2 p (List.mem_cons_of_mem _ hp)
    have := flt_wk p env' tr e hwp
    refine ⟨this.1, Nat.le_trans this.2 ?_⟩
    rw [wre]
    have := join_mem (List.mem_cons_of_mem q hp)
    simp; omega
termination_by t
decreasing_by
 have := List.sizeOf_lt_of_mem hp
 simp; omega
theorem wk_ne {t : Tree} (h : t.wk) : t.txt.toList ≠ [] := by
 rw [txt_toList]
 cases t with
 | atom s =>
  rw [Tree.wk] at h
  rw [Tree.write]
  intro e
  have := size_toList s
  rw [Go.ByteArray.toList_eq, e] at this
  exact h.1 this
 | node ps => rw [wre]; simp
mutual
theorem flt_fit : ∀ (m : Tm) (env : List (ByteArray × Ty)) (f : Tm), m.flt env = some f → m.fit → f.fit
 | .mk hd a d bs ty ks, env, f, h, hf => by
  rw [Tm.flt] at h
  have hf2 := hf
  rw [Tm.fit] at hf2
  exact flts_fit (.mk hd a d bs ty ks) hf hd.toList a.toList ty bs env ks [] f h hf2.2
theorem flts_fit (self : Tm) (hs : self.fit) (h a : List UInt8) (ty : Option Ty) (bs : List ByteArray) (env : List (ByteArray × Ty)) : ∀ (ks : List Tm) (acc : List Ty) (f : Tm), Tm.flts self h a ty bs env acc ks = some f → Tm.fits ks → f.fit
 | [], acc, f, hh, _ => by
  rw [Tm.flts] at hh
  split at hh
  ·cases hh
  ·obtain rfl := Option.some.inj hh; exact hs
 | k :: ks, acc, f, hh, hf => by
  rw [Tm.flts] at hh
  rw [Tm.fits] at hf
  cases hb : (if ks.isEmpty = true then bndT h ty acc[0]? else some []) with
  | none => rw [hb] at hh; simp only at hh; obtain rfl := Option.some.inj hh; exact hs
  | some bts =>
   rw [hb] at hh; simp only at hh
   cases hk : Tm.typ (enw env (if ks.isEmpty = true then bs else []) bts) k with
   | none => rw [hk] at hh; simp only at hh; exact flt_fit k _ f hh hf.1
   | some t => rw [hk] at hh; simp only at hh; exact flts_fit self hs h a ty bs env ks (acc ++ [t]) f hh hf.2
end
def arity (h : List UInt8) : Nat := (shape h).countP Sg.isK
theorem iff_any {b : Nat} {x2 x3 x5 : Value} {t : TypeId} (hd a : ByteArray) (ty : Option Ty) (env : List (ByteArray × Ty)) (x : Ty) (y : Ty) (z : Ty) (pe p : Option Addr) (n c : Nat) (w : World) (hb : w.heap[b]? = some (.cells #[.string hd, .string a, x2, x3, tyV ty, x5] t (0, 0))) (hh : hd.toList = [105, 102])
    (hn : 3 = n) (hv : Vals w p (([x, y, z] : List Ty).map Ty.val)) (hy : y.atoms ≤ 12) (hz : z.atoms ≤ 12) : Calls Tryz.prog 152 #[.pointer (some ⟨b, 0, none⟩), .slice p n c, .pointer pe] w (Fro (joinT hd.toList ty a.toList env (some x) (some y) (some z)) w) := by
 cases hq : x.isBit with
 | true => exact from_if_yes hd a ty env x y z pe p n c w hb hh hn hv hy hz hq
 | false => exact from_if_no hd a ty env x y z pe p n c w hb hh hn hv hq
theorem one_of {ps : List Ty} (h : ps.length = 1) : ∃ x, ps = [x] := by
 match ps, h with
 | [x], _ => exact ⟨x, rfl⟩
theorem two_of {ps : List Ty} (h : ps.length = 2) : ∃ x y, ps = [x, y] := by
 match ps, h with
 | [x, y], _ => exact ⟨x, y, rfl⟩
theorem three_of {ps : List Ty} (h : ps.length = 3) : ∃ x y z, ps = [x, y, z] := by
 match ps, h with
 | [x, y, z], _ => exact ⟨x, y, z, rfl⟩
def headB (h : List UInt8) : Bool := decide (h = [110, 97, 109, 101] ∨ h = [98, 105, 116]) || !(shape h).isEmpty
theorem typeFrom_any {b : Nat} {x2 x3 x5 : Value} {t : TypeId} (hd a : ByteArray) (ty : Option Ty) (env : List (ByteArray × Ty)) (ps : List Ty) (pe p : Option Addr) (n c : Nat) (w : World) (hb : w.heap[b]? = some (.cells #[.string hd, .string a, x2, x3, tyV ty, x5] t (0, 0))) (hH : headB hd.toList = true)
    (hl : ps.length = arity hd.toList) (hn : ps.length = n) (hv : Vals w p (ps.map Ty.val)) (hty : (shape hd.toList).countP Sg.isT ≠ 0 → ty ≠ none) (ha : ∀ x ∈ ps, x.atoms ≤ 12) {w0 : World} {S : Nat → Prop} (he : EIn w0 S env pe) (hk : Kept w0 w) :
    Calls Tryz.prog 152 #[.pointer (some ⟨b, 0, none⟩), .slice p n c, .pointer pe] w (Fro (joinT hd.toList ty a.toList env ps[0]? ps[1]? ps[2]?) w) := by
 by_cases c1 : hd.toList = [110, 97, 109, 101]
 ·rw [c1] at hl
  obtain rfl : ps = [] := List.eq_nil_of_length_eq_zero hl
  exact from_name hd a ty env pe p n c w hb c1 he hk
 by_cases c2 : hd.toList = [98, 105, 116]
 ·rw [c2] at hl
  obtain rfl : ps = [] := List.eq_nil_of_length_eq_zero hl
  exact from_bit hd a ty env pe p n c w hb c2
 by_cases c3 : hd.toList = [112, 97, 105, 114]
 ·rw [c3] at hl
  obtain ⟨x, y, rfl⟩ := two_of hl
  exact from_pair hd a ty env x y pe p n c w hb c3 hn hv
 by_cases c4 : hd.toList = [116, 104, 117, 110, 107]
 ·rw [c4] at hl
  obtain ⟨x, rfl⟩ := one_of hl
  exact from_thunk hd a ty env x pe p n c w hb c4 hn hv
 by_cases c5 : hd.toList = [114, 101, 116, 117, 114, 110]
 ·rw [c5] at hl
  obtain ⟨x, rfl⟩ := one_of hl
  exact from_return hd a ty env x pe p n c w hb c5 hn hv
 by_cases c6 : hd.toList = [116, 111]
 ·rw [c6] at hl
  obtain ⟨x, y, rfl⟩ := two_of hl
  exact from_to hd a ty env x y pe p n c w hb c6 hn hv
 by_cases c7 : hd.toList = [115, 112, 108, 105, 116]
 ·rw [c7] at hl
  obtain ⟨x, y, rfl⟩ := two_of hl
  exact from_split hd a ty env x y pe p n c w hb c7 hn hv
 by_cases c8 : hd.toList = [102, 111, 114, 99, 101]
 ·rw [c8] at hl
  obtain ⟨x, rfl⟩ := one_of hl
  exact from_force hd a ty env x pe p n c w hb c8 hn hv
 by_cases c9 : hd.toList = [108, 97, 109]
 ·rw [c9] at hl hty
  obtain ⟨x, rfl⟩ := one_of hl
  cases ty with
  | none => exact absurd rfl (hty (by decide))
  | some u => exact from_lam hd a env u x pe p n c w hb c9 hn hv
 by_cases c10 : hd.toList = [97, 112, 112]
 ·rw [c10] at hl
  obtain ⟨x, y, rfl⟩ := two_of hl
  exact from_app hd a ty env x y pe p n c w hb c10 hn hv (ha x (by simp)) (ha y (by simp))
 by_cases c11 : hd.toList = [105, 102]
 ·rw [c11] at hl
  obtain ⟨x, y, z, rfl⟩ := three_of hl
  exact iff_any hd a ty env x y z pe p n c w hb c11 hn hv (ha y (by simp)) (ha z (by simp))
 by_cases c12 : hd.toList = [98, 111, 116, 104]
 ·rw [c12] at hl
  obtain ⟨x, y, rfl⟩ := two_of hl
  exact from_both hd a ty env x y pe p n c w hb c12 hn hv
 by_cases c13 : hd.toList = [102, 115, 116]
 ·rw [c13] at hl
  obtain ⟨x, rfl⟩ := one_of hl
  exact from_fst hd a ty env x pe p n c w hb c13 hn hv
 by_cases c14 : hd.toList = [115, 110, 100]
 ·rw [c14] at hl
  obtain ⟨x, rfl⟩ := one_of hl
  exact from_snd hd a ty env x pe p n c w hb c14 hn hv
 by_cases c15 : hd.toList = [103, 101, 116]
 ·rw [c15] at hl
  obtain ⟨x, rfl⟩ := one_of hl
  exact from_get hd a ty env x pe p n c w hb c15 hn hv
 by_cases c16 : hd.toList = [112, 117, 116]
 ·rw [c16] at hl
  obtain ⟨x, y, rfl⟩ := two_of hl
  exact from_put hd a ty env x y pe p n c w hb c16 hn hv
 by_cases c17 : hd.toList = [102, 97, 105, 108]
 ·rw [c17] at hl hty
  obtain rfl : ps = [] := List.eq_nil_of_length_eq_zero hl
  cases ty with
  | none => exact absurd rfl (hty (by decide))
  | some u => exact from_fail hd a env u pe p n c w hb c17
 by_cases c18 : hd.toList = [116, 114, 121]
 ·rw [c18] at hl
  obtain ⟨x, y, rfl⟩ := two_of hl
  exact from_try hd a ty env x y pe p n c w hb c18 hn hv (ha x (by simp)) (ha y (by simp))
 ·have hs : shape hd.toList = [] := by
    unfold shape
    rw [if_neg c3, if_neg (by rintro (h | h | h); exact c4 h; exact c13 h; exact c14 h), if_neg (by rintro (h | h); exact c5 h; exact c8 h), if_neg c6, if_neg c9, if_neg c10, if_neg c11, if_neg c7, if_neg (by rintro (h | h); exact c12 h; exact c18 h), if_neg c15, if_neg c16, if_neg c17]
  unfold headB at hH
  rw [hs] at hH
  simp [c1, c2] at hH
theorem Fro.some {t : Ty} {w w' : World} {e : Ending} (h : Fro (Option.some t) w e w') : e = .returned (.tuple #[t.val, .bool true]) ∧ Below w.heap.size w w' := ⟨h.2, h.1⟩
theorem limitedFrom_any {b : Nat} {x2 x3 x5 : Value} {t : TypeId} (hd a : ByteArray) (ty : Option Ty) (env : List (ByteArray × Ty)) (ps : List Ty) (pe p : Option Addr) (n c : Nat) (w : World) (hb : w.heap[b]? = some (.cells #[.string hd, .string a, x2, x3, tyV ty, x5] t (0, 0))) (hH : headB hd.toList = true)
    (hl : ps.length = arity hd.toList) (hn : ps.length = n) (hv : Vals w p (ps.map Ty.val)) (hty : (shape hd.toList).countP Sg.isT ≠ 0 → ty ≠ none) (ha : ∀ x ∈ ps, x.atoms ≤ 12) (hj : ∀ u, joinT hd.toList ty a.toList env ps[0]? ps[1]? ps[2]? = some u → u.atoms ≤ 400) {w0 : World} {S : Nat → Prop} (he : EIn w0 S env pe) (hk : Kept w0 w) :
    Calls Tryz.prog 137 #[.pointer (some ⟨b, 0, none⟩), .slice p n c, .pointer pe] w fun e w' => e = .returned (tyV (limT (joinT hd.toList ty a.toList env ps[0]? ps[1]? ps[2]?))) ∧ Below w.heap.size w w' := by
 have HC := hid (typeFrom_any hd a ty env ps pe p n c w hb hH hl hn hv hty ha he hk)
 obtain ⟨J, hJ⟩ : ∃ J, joinT hd.toList ty a.toList env ps[0]? ps[1]? ps[2]? = J := ⟨_, rfl⟩
 rw [hJ] at HC hj ⊢
 clear hb hH hl hn hv hty ha he hk hJ
 cases J with
 | none =>
  clear hj
  go_enter Tryz.func137, Tryz.ntmps137
  go_wp2_with (go_at_call 152; refine HC.out.mono ?_; rintro e w1 ⟨hb1, v, rfl⟩)
  go_ret
  exact ⟨rfl, hb1⟩
 | some u =>
  have hu := hj u rfl
  have HA := hid (fun W => exTy_any u (by omega) W)
  obtain ⟨nu, vu, hu2⟩ := u.val_iface
  have HU := hid hu2
  rw [hu2] at HA
  clear hj hu2
  by_cases h12 : u.atoms ≤ 12
  ·have g : ¬ (12 : Int) < (u.atoms : Int) := by omega
   have HL := hid (show limT (some u) = some u by rw [limT, if_pos h12])
   clear h12
   go_enter Tryz.func137, Tryz.ntmps137
   go_wp2_with (first
    | (go_at_call 82; have _ := hb1; refine (HA.out _).mono ?_; rintro e w2 ⟨⟨xb, xn, rfl⟩, hb2⟩; have hft := exFld0)
    | (go_at_call 152; refine HC.out.mono ?_; rintro e w1 hp; obtain ⟨he1, hb1⟩ := hp.some; rw [HU.out] at he1; subst he1; clear hp))
   go_ret
   exact ⟨by rw [HL.out, tyV, HU.out]; rfl, hb1.trans (hb2.mono hb1.size)⟩
  ·have g : (12 : Int) < (u.atoms : Int) := by omega
   have HL := hid (show limT (some u) = none by rw [limT, if_neg h12])
   clear h12
   go_enter Tryz.func137, Tryz.ntmps137
   go_wp2_with (first
    | (go_at_call 82; have _ := hb1; refine (HA.out _).mono ?_; rintro e w2 ⟨⟨xb, xn, rfl⟩, hb2⟩; have hft := exFld0)
    | (go_at_call 152; refine HC.out.mono ?_; rintro e w1 hp; obtain ⟨he1, hb1⟩ := hp.some; rw [HU.out] at he1; subst he1; clear hp))
   go_ret
   exact ⟨by rw [HL.out]; rfl, hb1.trans (hb2.mono hb1.size)⟩
mutual
def Tm.tok : Tm → Prop
 | .mk hd _ _ bs ty ks => headB hd.toList = true ∧ ks.length = arity hd.toList ∧ bs.length = (shape hd.toList).countP Sg.isX ∧ ((shape hd.toList).countP Sg.isT ≠ 0 → ty ≠ none) ∧ (∀ t, ty = some t → t.atoms ≤ 12) ∧ Tm.toks ks
def Tm.toks : List Tm → Prop
 | [] => True
 | k :: ks => k.tok ∧ Tm.toks ks
end
theorem toks_get : ∀ (ks : List Tm) (i : Nat) (k : Tm), Tm.toks ks → ks[i]? = some k → k.tok
 | [], i, k, _, h => by simp at h
 | x :: ks, i, k, hf, h => by
  rw [Tm.toks] at hf
  cases i with
  | zero => simp at h; subst h; exact hf.1
  | succ i => exact toks_get ks i k hf.2 (by simpa using h)
theorem toks_append (a b : List Tm) : Tm.toks (a ++ b) ↔ Tm.toks a ∧ Tm.toks b := by
 induction a with
 | nil => simp [Tm.toks]
 | cons x a ih => simp only [List.cons_append, Tm.toks, ih, and_assoc]
theorem parts_tok (ar : List ByteArray) : ∀ (cs : List Sg) (ps : List Tree) (st st' : St), (∀ p ∈ ps, ∀ ar m, p.tm ar = some m → m.tok) → cs.length = ps.length → Tm.toks st.kids → Tree.parts ar cs ps st = some st' → Tm.toks st'.kids
 | [], [], st, st', _, _, hf, h => by simp [Tree.parts] at h; subst h; exact hf
 | c :: cs, p :: ps, st, st', ih, hl, hf, h => by
  have ih' : ∀ p ∈ ps, ∀ ar m, p.tm ar = some m → m.tok := fun q hq => ih q (List.mem_cons_of_mem _ hq)
  have hl' : cs.length = ps.length := by simpa using hl
  have kid : ∀ v st1, addK v (p.tm (ar ++ st.binds)) st = some st1 → Tree.parts ar cs ps st1 = some st' → Tm.toks st'.kids := by
   intro v st1 h1 h2
   obtain ⟨m, ht, h3⟩ := adk h1
   exact parts_tok ar cs ps st1 st' ih' hl' (by rw [h3]; exact (toks_append _ _).2 ⟨hf, ih p (List.mem_cons_self ..) _ _ ht, trivial⟩) h2
  cases c with
  | X =>
   rw [Tree.parts] at h
   cases h1 : addX p.text st with
   | none => rw [h1] at h; simp at h
   | some st1 => rw [h1] at h; exact parts_tok ar cs ps st1 st' ih' hl' (by rw [(adx h1).2]; exact hf) h
  | A =>
   rw [Tree.parts] at h
   cases h1 : addT true p st with
   | none => rw [h1] at h; simp at h
   | some st1 => rw [h1] at h; obtain ⟨ty, _, h2⟩ := adt h1; exact parts_tok ar cs ps st1 st' ih' hl' (by rw [h2]; exact hf) h
  | C =>
   rw [Tree.parts] at h
   cases h1 : addT false p st with
   | none => rw [h1] at h; simp at h
   | some st1 => rw [h1] at h; obtain ⟨ty, _, h2⟩ := adt h1; exact parts_tok ar cs ps st1 st' ih' hl' (by rw [h2]; exact hf) h
  | V =>
   rw [Tree.parts] at h
   cases h1 : addK true (p.tm (ar ++ st.binds)) st with
   | none => rw [h1] at h; simp at h
   | some st1 => rw [h1] at h; exact kid true st1 h1 h
  | M =>
   rw [Tree.parts] at h
   cases h1 : addK false (p.tm (ar ++ st.binds)) st with
   | none => rw [h1] at h; simp at h
   | some st1 => rw [h1] at h; exact kid false st1 h1 h
theorem tyIn_small : ∀ (cs : List Sg) (ps : List Tree) (t : Ty), tyIn cs ps = some t → t.atoms ≤ 12
 | [], _, t, h => by simp [tyIn] at h
 | c :: cs, [], t, h => by cases c <;> simp [tyIn] at h
 | c :: cs, p :: ps, t, h => by
  cases c with
  | A => rw [tyIn] at h; exact (tyLim_good h).2
  | C => rw [tyIn] at h; exact (tyLim_good h).2
  | X => exact tyIn_small cs ps t (by simpa [tyIn] using h)
  | V => exact tyIn_small cs ps t (by simpa [tyIn] using h)
  | M => exact tyIn_small cs ps t (by simpa [tyIn] using h)
theorem tm_tok (t : Tree) (ar : List ByteArray) (m : Tm) (h : t.tm ar = some m) : m.tok := by
 match t with
 | .atom s =>
  rw [Tree.tm, atomTm] at h
  split at h
  ·simp at h; subst h
   rw [Tm.tok, stb]; exact ⟨rfl, rfl, rfl, fun e => absurd rfl e, by simp, trivial⟩
  ·split at h
   ·simp at h; subst h
    rw [Tm.tok, strName_toList]; exact ⟨rfl, rfl, rfl, fun e => absurd rfl e, by simp, trivial⟩
   ·simp at h
 | .node [] => rw [Tree.tm] at h; simp at h
 | .node (q :: ps) =>
  obtain ⟨st, h1, h2, h3, rfl⟩ := tmn h
  obtain ⟨e1, e2, e3, _, _⟩ := parts_fit ar _ ps St.none st (fun p _ ar m h => tm_fit p ar m h) h2 trivial h3
  have e4 := pay ar _ ps St.none st h2 (she _) h3
  rw [Tm.tok]
  refine ⟨?_, by rw [e2]; simp [St.none, arity], by rw [e1]; simp [St.none], e3, fun t ht => ?_, parts_tok ar _ ps St.none st (fun p hp ar m => tm_tok p ar m) h2 trivial h3⟩
  ·unfold headB
   cases hs : shape q.text.toList with
   | nil => exact absurd hs h1
   | cons => simp
  ·rw [e4.1] at ht; exact tyIn_small _ _ t ht
termination_by t
decreasing_by
 have := List.sizeOf_lt_of_mem hp
 simp; omega
def EnvS (env : List (ByteArray × Ty)) : Prop := ∀ x ∈ env, x.2.atoms ≤ 12
theorem lookR_small {env : List (ByteArray × Ty)} (h : EnvS env) {s : List UInt8} {t : Ty} (hl : lookR s env = some t) : t.atoms ≤ 12 := by
 induction env with
 | nil => simp [lookR] at hl
 | cons x env ih =>
  obtain ⟨n, ty⟩ := x
  rw [lookR] at hl
  split at hl
  ·simp at hl; subst hl; exact h (n, ty) (by simp)
  ·exact ih (fun y hy => h y (by simp [hy])) hl
theorem envWith_small {env : List (ByteArray × Ty)} (h : EnvS env) (bs : List ByteArray) (ts : List Ty) (ht : ∀ t ∈ ts, t.atoms ≤ 12) : EnvS (enw env bs ts) := by
 intro x hx
 unfold enw at hx
 rcases List.mem_append.1 hx with hx | hx
 ·rw [List.mem_reverse] at hx
  exact ht _ (List.of_mem_zip (a := x.1) (b := x.2) hx).2
 ·exact h x hx
theorem bndT_small {h : List UInt8} {ty first : Option Ty} {ts : List Ty} (hb : bndT h ty first = some ts) (hf : ∀ t, first = some t → t.atoms ≤ 12) (ht : ∀ t, ty = some t → t.atoms ≤ 12) : ∀ t ∈ ts, t.atoms ≤ 12 := by
 unfold bndT at hb
 split at hb
 ·split at hb
  ·simp at hb; subst hb
   have h1 := hf _ rfl
   intro t h2; simp at h2; subst h2
   rw [Ty.atoms] at h1; omega
  ·simp at hb
 ·split at hb
  ·split at hb
   ·simp at hb; subst hb
    have h1 := hf _ rfl
    rw [Ty.atoms] at h1
    intro t h2; simp at h2
    rcases h2 with rfl | rfl <;> omega
   ·simp at hb
  ·split at hb
   ·cases ty with
    | none => simp at hb
    | some u => simp at hb; subst hb; intro t h2; simp at h2; subst h2; exact ht _ rfl
   ·split at hb
    ·simp at hb; subst hb; intro t h2; simp at h2; subst h2; decide
    ·simp at hb; subst hb; intro t h2; simp at h2
theorem joinT_small {h a : List UInt8} {ty p0 p1 p2 : Option Ty} {env : List (ByteArray × Ty)} {t : Ty} (hj : joinT h ty a env p0 p1 p2 = some t) (he : EnvS env) (ht : ∀ x, ty = some x → x.atoms ≤ 12)
    (h0 : ∀ x, p0 = some x → x.atoms ≤ 12) (h1 : ∀ x, p1 = some x → x.atoms ≤ 12) : t.atoms ≤ 400 := by
 unfold joinT at hj
 by_cases c : h = [110, 97, 109, 101]
 ·rw [if_pos c] at hj
  have := lookR_small he hj; omega
 rw [if_neg c] at hj; clear c
 by_cases c : h = [98, 105, 116]
 ·rw [if_pos c] at hj
  simp only [Option.some.injEq] at hj; subst hj; simp only [Ty.atoms]; omega
 rw [if_neg c] at hj; clear c
 by_cases c : h = [112, 97, 105, 114]
 ·rw [if_pos c] at hj
  split at hj
  ·simp only [Option.some.injEq] at hj; subst hj; have := h0 _ rfl; have := h1 _ rfl; (try simp only [Ty.atoms] at *); omega
  ·simp at hj
 rw [if_neg c] at hj; clear c
 by_cases c : h = [116, 104, 117, 110, 107]
 ·rw [if_pos c] at hj
  cases p0 with
  | none => simp at hj
  | some x => simp only [Option.map_some, Option.some.injEq] at hj; subst hj; have := h0 _ rfl; simp only [Ty.atoms]; omega
 rw [if_neg c] at hj; clear c
 by_cases c : h = [114, 101, 116, 117, 114, 110]
 ·rw [if_pos c] at hj
  cases p0 with
  | none => simp at hj
  | some x => simp only [Option.map_some, Option.some.injEq] at hj; subst hj; have := h0 _ rfl; simp only [Ty.atoms]; omega
 rw [if_neg c] at hj; clear c
 by_cases c : h = [116, 111] ∨ h = [115, 112, 108, 105, 116]
 ·rw [if_pos c] at hj
  have := h1 _ hj; omega
 rw [if_neg c] at hj; clear c
 by_cases c : h = [102, 111, 114, 99, 101]
 ·rw [if_pos c] at hj
  split at hj
  ·simp only [Option.some.injEq] at hj; subst hj; have := h0 _ rfl; (try simp only [Ty.atoms] at *); omega
  ·simp at hj
 rw [if_neg c] at hj; clear c
 by_cases c : h = [108, 97, 109]
 ·rw [if_pos c] at hj
  split at hj
  ·simp only [Option.some.injEq] at hj; subst hj; have := ht _ rfl; have := h0 _ rfl; (try simp only [Ty.atoms] at *); omega
  ·simp at hj
 rw [if_neg c] at hj; clear c
 by_cases c : h = [97, 112, 112]
 ·rw [if_pos c] at hj
  split at hj
  ·split at hj
   ·simp only [Option.some.injEq] at hj; subst hj; have := h0 _ rfl; (try simp only [Ty.atoms] at *); omega
   ·simp at hj
  ·simp at hj
 rw [if_neg c] at hj; clear c
 by_cases c : h = [105, 102]
 ·rw [if_pos c] at hj
  split at hj
  ·split at hj
   ·simp only [Option.some.injEq] at hj; subst hj; have := h1 _ rfl; (try simp only [Ty.atoms] at *); omega
   ·simp at hj
  ·simp at hj
 rw [if_neg c] at hj; clear c
 by_cases c : h = [98, 111, 116, 104]
 ·rw [if_pos c] at hj
  split at hj
  ·simp only [Option.some.injEq] at hj; subst hj; have := h0 _ rfl; have := h1 _ rfl; (try simp only [Ty.atoms] at *); omega
  ·simp at hj
 rw [if_neg c] at hj; clear c
 by_cases c : h = [102, 115, 116]
 ·rw [if_pos c] at hj
  split at hj
  ·simp only [Option.some.injEq] at hj; subst hj; have := h0 _ rfl; (try simp only [Ty.atoms] at *); omega
  ·simp at hj
 rw [if_neg c] at hj; clear c
 by_cases c : h = [115, 110, 100]
 ·rw [if_pos c] at hj
  split at hj
  ·simp only [Option.some.injEq] at hj; subst hj; have := h0 _ rfl; (try simp only [Ty.atoms] at *); omega
  ·simp at hj
 rw [if_neg c] at hj; clear c
 by_cases c : h = [103, 101, 116]
 ·rw [if_pos c] at hj
  have := h0 _ hj; omega
 rw [if_neg c] at hj; clear c
 by_cases c : h = [112, 117, 116]
 ·rw [if_pos c] at hj
  split at hj
  ·have := h1 _ hj; omega
  ·simp at hj
 rw [if_neg c] at hj; clear c
 by_cases c : h = [102, 97, 105, 108]
 ·rw [if_pos c] at hj
  have := ht _ hj; omega
 rw [if_neg c] at hj; clear c
 by_cases c : h = [116, 114, 121]
 ·rw [if_pos c] at hj
  split at hj
  ·split at hj
   ·simp only [Option.some.injEq] at hj; subst hj; have := h0 _ rfl; (try simp only [Ty.atoms] at *); omega
   ·simp at hj
  ·simp at hj
 rw [if_neg c] at hj; clear c
 simp at hj
end Go.Proofs.YtfogjomebcponaaGreatDoor
