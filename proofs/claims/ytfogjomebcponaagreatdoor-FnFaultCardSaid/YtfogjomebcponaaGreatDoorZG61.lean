/- Merged: YieldT, YieldU, TypeIn. -/
import Derived.Test.YtfogjomebcponaaGreatDoorZGc37
import Derived.Test.YtfogjomebcponaaGreatDoorIter
namespace Go.Proofs.YtfogjomebcponaaGreatDoor
open Go.RowKit Go.Shelf
set_option maxRecDepth 100000
set_option maxHeartbeats 16000000
attribute [local go_sem] Oper.semAt_some
def encY (x : Nat × Option Ty) : Array Value := #[.pointer (some ⟨x.1, 0, none⟩), tyV x.2]
def Tr (w0 : World) (S : Nat → Prop) (m : Tm) (env : List (ByteArray × Ty)) (q : List (Nat × Option Ty)) : Prop := match m.typ env with
 | some ty => (∀ x ∈ q, x.2 ≠ none) ∧ ∃ q' b, q = q' ++ [(b, some ty)]
 | none => ∃ q' b f, q = q' ++ [(b, none)] ∧ (∀ x ∈ q', x.2 ≠ none) ∧ m.flt env = some f ∧ NIn w0 S f b
def Pt (w0 : World) (S : Nat → Prop) (m : Tm) (env : List (ByteArray × Ty)) (q : List (Nat × Option Ty)) : Prop := ∀ b, (b, none) ∈ q → ∃ f, m.typ env = none ∧ m.flt env = some f ∧ NIn w0 S f b
theorem Tr.pt {w0 : World} {S : Nat → Prop} {m : Tm} {env : List (ByteArray × Ty)} {q : List (Nat × Option Ty)} (h : Tr w0 S m env q) : Pt w0 S m env q := by
 intro b hb
 unfold Tr at h
 cases ht : m.typ env with
 | some ty => rw [ht] at h; exact absurd rfl (h.1 _ hb)
 | none =>
  rw [ht] at h
  obtain ⟨q', b', f, rfl, hq, hf, hn⟩ := h
  rcases List.mem_append.1 hb with hb | hb
  ·exact absurd rfl (hq _ hb)
  ·simp at hb; subst hb; exact ⟨f, rfl, hf, hn⟩
def YPost (w0 : World) (S : Nat → Prop) (n0 B : Nat) (J Jx : List (Nat × Option Ty) → World → Prop) (m : Tm) (env : List (ByteArray × Ty)) (pre : List (Nat × Option Ty)) (W : World) (e : Ending) (W' : World) : Prop :=
 (Apart n0 B W W' ∧ ∃ q, e = .returned (tyV (m.typ env)) ∧ Tr w0 S m env q ∧ J (pre ++ q) W') ∨ (e = .returned .nilIface ∧ ∃ q, Pt w0 S m env q ∧ Jx (pre ++ q) W')
theorem Below.apart {n0 B : Nat} {w w' : World} (h : Below w.heap.size w w') : Apart n0 B w w' := ⟨h.os, h.tape, h.output, h.size, fun k hk _ => h.block k hk⟩
theorem EIn.apart {w w' : World} {n0 B : Nat} {l : List (ByteArray × Ty)} {p : Option Addr} (h : EIn w (fun k => k < n0 ∨ B ≤ k) l p) (ha : Apart n0 B w w') : EIn w' (fun k => k < n0 ∨ B ≤ k) l p := h.keep (fun k hk hl => ha.block k hl hk) (fun _ hk _ => hk)
def YRound (n0 B : Nat) (J Jx : List (Nat × Option Ty) → World → Prop) (l n : Nat) : Prop := ∀ pre x W1, J pre W1 → YieldAt Fence.wide n Tryz.prog l (encY x) W1 fun e W' =>
 (e = .returned (.bool true) ∧ J (pre ++ [x]) W' ∧ Apart n0 B W1 W') ∨ (e = .returned (.bool false) ∧ Jx (pre ++ [x]) W')
attribute [local go_sem] Oper.semAt_some
theorem typs_eq {m : Tm} {hd a : ByteArray} {d : Int} {bs : List ByteArray} {ty : Option Ty} {ks : List Tm} (hm : m = .mk hd a d bs ty ks) (env : List (ByteArray × Ty)) :
    m.typ env = (match Tm.typs hd.toList ty bs env [] ks with
     | none => none
     | some ps => limT (joinT hd.toList ty a.toList env ps[0]? ps[1]? ps[2]?)) ∧ m.flt env = Tm.flts m hd.toList a.toList ty bs env [] ks := by
 subst hm; exact ⟨by rw [Tm.typ]; rfl, by rw [Tm.flt]⟩
def LeftY (m : Tm) (hd a : ByteArray) (ty : Option Ty) (bs : List ByteArray) (env : List (ByteArray × Ty)) (acc : List Ty) (r : List Tm) : Prop :=
 m.typ env = (match Tm.typs hd.toList ty bs env acc r with
     | none => none
     | some ps => limT (joinT hd.toList ty a.toList env ps[0]? ps[1]? ps[2]?)) ∧ m.flt env = Tm.flts m hd.toList a.toList ty bs env acc r
theorem LeftY.kid {m : Tm} {hd a : ByteArray} {ty : Option Ty} {bs : List ByteArray} {env : List (ByteArray × Ty)} {acc : List Ty} {ks : List Tm} {i n : Nat} {k : Tm} {bts : List Ty} (h : LeftY m hd a ty bs env acc (ks.drop i)) (hn : ks.length = n) (hk : ks[i]? = some k)
    (hb : (if i + 1 = n then bndT hd.toList ty acc[0]? else some []) = some bts) : (∀ t, k.typ (enw env (if i + 1 = n then bs else []) bts) = some t → LeftY m hd a ty bs env (acc ++ [t]) (ks.drop (i + 1))) ∧
    (k.typ (enw env (if i + 1 = n then bs else []) bts) = none → m.typ env = none ∧ m.flt env = k.flt (enw env (if i + 1 = n then bs else []) bts)) := by
 unfold LeftY at h ⊢
 rw [typs_at hn hk, flts_at hn hk, hb] at h
 refine ⟨fun t ht => ?_, fun ht => ?_⟩
 ·simp only [ht] at h; exact h
 ·simp only [ht] at h; exact h
theorem LeftY.stop {m : Tm} {hd a : ByteArray} {ty : Option Ty} {bs : List ByteArray} {env : List (ByteArray × Ty)} {acc : List Ty} {ks : List Tm} {i n : Nat} {k : Tm} (h : LeftY m hd a ty bs env acc (ks.drop i)) (hn : ks.length = n) (hk : ks[i]? = some k)
    (hb : (if i + 1 = n then bndT hd.toList ty acc[0]? else some []) = none) : m.typ env = none ∧ m.flt env = some m := by
 unfold LeftY at h
 rw [typs_at hn hk, flts_at hn hk, hb] at h
 exact h
theorem LeftY.done {m : Tm} {hd a : ByteArray} {ty : Option Ty} {bs : List ByteArray} {env : List (ByteArray × Ty)} {acc : List Ty} (h : LeftY m hd a ty bs env acc []) :
    m.typ env = limT (joinT hd.toList ty a.toList env acc[0]? acc[1]? acc[2]?) ∧ (m.typ env = none → m.flt env = some m) := by
 unfold LeftY at h
 rw [Tm.typs, Tm.flts] at h
 refine ⟨h.1, fun hn => ?_⟩
 rw [h.2, if_neg]
 have := h.1
 simp only at this
 rw [← this, hn]; simp
def TypedQ (q : List (Nat × Option Ty)) : Prop := ∀ x ∈ q, x.2 ≠ none
theorem TypedQ.append {p q : List (Nat × Option Ty)} (h : TypedQ p) (h2 : TypedQ q) : TypedQ (p ++ q) := fun x hx => (List.mem_append.1 hx).elim (h x) (h2 x)
theorem tr_self {w0 : World} {S : Nat → Prop} {m : Tm} {env : List (ByteArray × Ty)} {q : List (Nat × Option Ty)} {b : Nat} (hq : TypedQ q) (hn : NIn w0 S m b) (hf : m.typ env = none → m.flt env = some m) : Tr w0 S m env (q ++ [(b, m.typ env)]) := by
 unfold Tr
 cases ht : m.typ env with
 | some ty => exact ⟨fun x hx => (List.mem_append.1 hx).elim (hq x) (fun h => by simp at h; subst h; simp), q, b, rfl⟩
 | none => exact ⟨q, b, m, rfl, hq, hf ht, hn⟩
theorem pt_self {w0 : World} {S : Nat → Prop} {m : Tm} {env : List (ByteArray × Ty)} {q : List (Nat × Option Ty)} {b : Nat} (hq : TypedQ q) (hn : NIn w0 S m b) (hf : m.typ env = none → m.flt env = some m) : Pt w0 S m env (q ++ [(b, m.typ env)]) := (tr_self hq hn hf).pt
theorem tr_kid {w0 : World} {S : Nat → Prop} {m k : Tm} {env env' : List (ByteArray × Ty)} {q q2 : List (Nat × Option Ty)} (hq : TypedQ q) (h : Tr w0 S k env' q2) (hk : k.typ env' = none) (hm : m.typ env = none ∧ m.flt env = k.flt env') : Tr w0 S m env (q ++ q2) := by
 unfold Tr at h ⊢
 rw [hk] at h
 rw [hm.1]
 obtain ⟨q', b, f, rfl, h1, h2, h3⟩ := h
 exact ⟨q ++ q', b, f, by rw [List.append_assoc], TypedQ.append hq h1, by rw [hm.2]; exact h2, h3⟩
theorem tr_typed {w0 : World} {S : Nat → Prop} {k : Tm} {env' : List (ByteArray × Ty)} {q2 : List (Nat × Option Ty)} {t : Ty} (h : Tr w0 S k env' q2) (hk : k.typ env' = some t) : TypedQ q2 := by
 unfold Tr at h
 rw [hk] at h
 exact h.1
theorem pt_kid {w0 : World} {S : Nat → Prop} {m k : Tm} {env env' : List (ByteArray × Ty)} {q q2 : List (Nat × Option Ty)} (hq : TypedQ q) (h : Pt w0 S k env' q2) (hm : k.typ env' = none → m.typ env = none ∧ m.flt env = k.flt env') : Pt w0 S m env (q ++ q2) := by
 intro b hb
 rcases List.mem_append.1 hb with hb | hb
 ·exact absurd rfl (hq _ hb)
 ·obtain ⟨f, h1, h2, h3⟩ := h b hb
  have := hm h1
  exact ⟨f, this.1, by rw [this.2]; exact h2, h3⟩
theorem Apart.below_then {n0 B : Nat} {w w1 w2 : World} (h : Apart n0 B w w1) (hb : Below w.heap.size w1 w2) : Apart n0 B w w2 :=
 ⟨hb.os.trans h.os, hb.tape.trans h.tape, hb.output.trans h.output, Nat.le_trans h.size hb.size, fun k hk hx => (hb.block k hk).trans (h.block k hk hx)⟩
theorem own_apart {n0 B base n size : Nat} {w w1 : World} {e : TypeId} {v : Value} {xs : List Value} (h : w.ownsRow base e size v n xs) (hB : B ≤ base) (ha : Apart n0 B w w1) : w1.ownsRow base e size v n xs := by
 refine ⟨h.1, h.2.elim Or.inl fun ⟨g, cap, cur, hv, hbg, hg, hr⟩ => Or.inr ⟨g, cap, cur, hv, hbg, (ha.block g (Array.getElem?_eq_some_iff.1 hg).1 (Or.inr (by omega))).trans hg, hr⟩⟩
theorem own_below {base n size : Nat} {w w1 : World} {e : TypeId} {v : Value} {xs : List Value} (h : w.ownsRow base e size v n xs) (hb : Below w.heap.size w w1) : w1.ownsRow base e size v n xs := ows h hb
theorem YPost.some {w0 : World} {S : Nat → Prop} {n0 B : Nat} {J Jx : List (Nat × Option Ty) → World → Prop} {m : Tm} {env : List (ByteArray × Ty)} {pre : List (Nat × Option Ty)} {W W' : World} {e : Ending} {t : Ty} {v : Value} (h : YPost w0 S n0 B J Jx m env pre W e W') (ht : m.typ env = Option.some t) (hv : t.val = v) :
    (∃ q, e = .returned v ∧ Apart n0 B W W' ∧ TypedQ q ∧ J (pre ++ q) W') ∨ (∃ q, e = .returned .nilIface ∧ Pt w0 S m env q ∧ Jx (pre ++ q) W') := by
 rcases h with ⟨ha, q, he, htr, hj⟩ | ⟨he, q, hp, hj⟩
 ·rw [ht, tyV, hv] at he; exact .inl ⟨q, he, ha, tr_typed htr ht, hj⟩
 ·exact .inr ⟨q, he, hp, hj⟩
theorem YPost.none {w0 : World} {S : Nat → Prop} {n0 B : Nat} {J Jx : List (Nat × Option Ty) → World → Prop} {m : Tm} {env : List (ByteArray × Ty)} {pre : List (Nat × Option Ty)} {W W' : World} {e : Ending} (h : YPost w0 S n0 B J Jx m env pre W e W') (ht : m.typ env = Option.none) :
    e = .returned .nilIface ∧ ((∃ q, Apart n0 B W W' ∧ Tr w0 S m env q ∧ J (pre ++ q) W') ∨ (∃ q, Pt w0 S m env q ∧ Jx (pre ++ q) W')) := by
 rcases h with ⟨ha, q, he, htr, hj⟩ | ⟨he, q, hp, hj⟩
 ·rw [ht, tyV] at he; exact ⟨he, .inl ⟨q, ha, htr, hj⟩⟩
 ·exact ⟨he, .inr ⟨q, hp, hj⟩⟩
theorem typ_small {m : Tm} {env : List (ByteArray × Ty)} {t : Ty} (h : m.typ env = Option.some t) : t.atoms ≤ 12 := by
 cases m with
 | mk hd a d bs ty ks =>
  rw [Tm.typ] at h
  cases hq : Tm.typs hd.toList ty bs env [] ks with
  | none => rw [hq] at h; simp at h
  | some ps => rw [hq] at h; exact (limT_some h).2
theorem bndT_len {h : List UInt8} {ty first : Option Ty} {ts : List Ty} (hb : bndT h ty first = some ts) : ts.length = (shape h).countP Sg.isX := by
 unfold bndT at hb
 by_cases c : h = [116, 111]
 ·rw [if_pos c] at hb; subst c
  split at hb
  ·simp at hb; subst hb; rfl
  ·simp at hb
 rw [if_neg c] at hb
 by_cases c2 : h = [115, 112, 108, 105, 116]
 ·rw [if_pos c2] at hb; subst c2
  split at hb
  ·simp at hb; subst hb; rfl
  ·simp at hb
 rw [if_neg c2] at hb
 by_cases c3 : h = [108, 97, 109]
 ·rw [if_pos c3] at hb; subst c3
  cases ty with
  | none => simp at hb
  | some u => simp at hb; subst hb; rfl
 rw [if_neg c3] at hb
 by_cases c4 : h = [103, 101, 116]
 ·rw [if_pos c4] at hb; subst c4; simp at hb; subst hb; rfl
 rw [if_neg c4] at hb
 simp at hb; subst hb
 unfold shape
 rw [if_neg c, if_neg c3, if_neg c2, if_neg c4]
 by_cases d1 : h = [112, 97, 105, 114]
 ·rw [if_pos d1]; rfl
 rw [if_neg d1]
 by_cases d2 : h = [116, 104, 117, 110, 107] ∨ h = [102, 115, 116] ∨ h = [115, 110, 100]
 ·rw [if_pos d2]; rfl
 rw [if_neg d2]
 by_cases d3 : h = [114, 101, 116, 117, 114, 110] ∨ h = [102, 111, 114, 99, 101]
 ·rw [if_pos d3]; rfl
 rw [if_neg d3]
 by_cases d4 : h = [97, 112, 112]
 ·rw [if_pos d4]; rfl
 rw [if_neg d4]
 by_cases d5 : h = [105, 102]
 ·rw [if_pos d5]; rfl
 rw [if_neg d5]
 by_cases d6 : h = [98, 111, 116, 104] ∨ h = [116, 114, 121]
 ·rw [if_pos d6]; rfl
 rw [if_neg d6]
 by_cases d7 : h = [112, 117, 116]
 ·rw [if_pos d7]; rfl
 rw [if_neg d7]
 by_cases d8 : h = [102, 97, 105, 108]
 ·rw [if_pos d8]; rfl
 rw [if_neg d8]; rfl
theorem yield_in {w0 : World} {n0 B l : Nat} (hn0 : w0.heap.size = n0) (hnB : n0 ≤ B) (J Jx : List (Nat × Option Ty) → World → Prop) (hJ : ∀ s A A', J s A → Below B A A' → J s A')
    (hY : ∀ n, YRound n0 B J Jx l n) {S : Nat → Prop} {m : Tm} {b : Nat} (hn : NIn w0 S m b) : m.tok → ∀ (env : List (ByteArray × Ty)) (pe : Option Addr) (pre : List (Nat × Option Ty)) (n : Nat) (W : World), EnvS env → Kept w0 W → B ≤ W.heap.size →
      EIn W (fun k => k < n0 ∨ B ≤ k) env pe → J pre W →
      CallsIn Fence.wide n Tryz.prog 107 #[.pointer (some ⟨b, 0, none⟩), .pointer pe, .func (.yield l) #[] #[]] W (YPost w0 S n0 B J Jx m env pre W) := by
 induction hn with
 | mk hd a d bs ty ks b bp bl bc kp kl kc A hS hb hbl hkl hbn hbv hkv hks ih =>
  intro htok env pe pre n W henv hkept hBW hein hj
  have hself : NIn w0 S (.mk hd a d bs ty ks) b := .mk hd a d bs ty ks b bp bl bc kp kl kc A hS hb hbl hkl hbn hbv hkv hks
  rw [Tm.tok] at htok
  obtain ⟨hH, hkn, hbn2, hty, hta, hks2⟩ := htok
  obtain ⟨m, hm⟩ : ∃ m, m = Tm.mk hd a d bs ty ks := ⟨_, rfl⟩
  rw [← hm] at hself ⊢
  have hlt0 := lt_of_block hb
  have hLY : LeftY m hd a ty bs env [] (ks.drop 0) := by
   have := typs_eq hm env
   exact this
  have hk4 : kl ≤ 4 := by
   rw [hkn] at hkl
   rcases shp hd.toList with ⟨_, he⟩ | ⟨_, he⟩
   ·rw [← hkl, arity, he]; decide
   ·rcases he with he | he | he | he | he | he | he | he | he | he | he | he <;> (rw [← hkl, arity, he]; decide)
  have hlt1 : b < n0 := by omega
  have KB := hid (show ∀ wr, Apart n0 B W wr → wr.heap[b]? = some (.cells #[.string hd, .string a, .int .i64 d, .slice bp bl bc, tyV ty, .slice kp kl kc] 70 (0, 0)) from fun wr ha => (ha.block b (by omega) (Or.inl hlt1)).trans ((hkept b hlt0).trans hb))
  have KK := hid (show ∀ wr, Apart n0 B W wr → ∀ i, i < kl → ∃ g, kp = some ⟨g, 0, none⟩ ∧ wr.cell? ⟨g, i, none⟩ = some (.pointer (some ⟨A i, 0, none⟩)) from fun wr ha i hi => by
   obtain ⟨g, hg, _, hc⟩ := hkv i _ (ptrs_get A hi)
   have hl : g < w0.heap.size := World.block_lt_of_cell? w0 _ hc
   exact ⟨g, hg, (World.cell?_of_block (w := w0) (a := ⟨g, i, none⟩) ((ha.block g (by omega) (Or.inl (by show g < n0; omega))).trans (hkept g hl))).trans hc⟩)
  have KV := hid (show ∀ wr, Apart n0 B W wr → Vals wr bp (bs.map Value.string) from fun wr ha i v hv => by
   obtain ⟨g, hg, _, hc⟩ := hbv i v hv
   have hl : g < w0.heap.size := World.block_lt_of_cell? w0 _ hc
   refine ⟨g, 0, hg, ?_⟩
   rw [Nat.zero_add]
   exact (World.cell?_of_block (w := w0) (a := ⟨g, i, none⟩) ((ha.block g (by omega) (Or.inl (by show g < n0; omega))).trans (hkept g hl))).trans hc)
  have KE := hid (show ∀ wr, Apart n0 B W wr → EIn wr (fun k => k < n0 ∨ B ≤ k) env pe from fun wr ha => hein.apart ha)
  have KH := hid (show ∀ wr, Apart n0 B W wr → Kept w0 wr from fun wr ha k hk => (ha.block k (by omega) (Or.inl (by omega))).trans (hkept k hk))
  have HIH := hid (show ∀ (i : Nat) (k : Tm), ks[i]? = some k → ∀ (env : List (ByteArray × Ty)) (pe : Option Addr) (pre : List (Nat × Option Ty)) (n : Nat) (W : World), EnvS env → Kept w0 W → B ≤ W.heap.size → EIn W (fun k => k < n0 ∨ B ≤ k) env pe → J pre W →
   CallsIn Fence.wide n Tryz.prog 107 #[.pointer (some ⟨A i, 0, none⟩), .pointer pe, .func (.yield l) #[] #[]] W (YPost w0 S n0 B J Jx k env pre W) from fun i k hk => ih i k hk (toks_get ks i k hks2 hk))
  have HY := hid hY
  have HJ := hid hJ
  have HN := hid hself
  have HLY := hid hLY
  have HJ0 := hid hj
  have HHB := hid hH
  have HAR := hid (hkl.symm.trans hkn)
  have HKL := hid hkl
  have HBL := hid hbl
  have HBX := hid hbn2
  have HSH := hid (sha hd.toList)
  have HTY := hid hty
  have HTA := hid hta
  have HEV := hid henv
  obtain ⟨i0, hi0, hz0, hz1, hz2⟩ := info_parts Tryz.infoNode
  have hdd : ∀ k : Nat, (Fence.wide.depth.isSome = true → 1 ≤ k) := fun k h => by cases h
  have c5 := (ces (KB.out W (Apart.refl _ _ _))).2.2.2.2.2.1
  clear hb hbv hkv hein hkept ih hY hJ hself hLY hj hH hkn hbn2 hty hta hks2 hkl hbl hks henv hm
  refine callsIn_of_wp Tryz.func107 rfl trivial ?_ rfl
  simp only [Tryz.ntmps107, List.size_toArray, List.length_cons, List.length_nil, Nat.reduceAdd, Nat.reduceSub, Array.replicate_succ, Array.replicate_zero, List.push_toArray, List.append_toArray, List.nil_append, List.cons_append]
  gi_wp2
  gi_loopw [7, 20] (fun v u wr => ∃ (i : Nat) (p : Option Addr) (c : Nat) (acc : List Ty) (q : List (Nat × Option Ty)), i ≤ kl ∧ u = .int .i64 (i : Int) ∧ v = .slice p i c ∧ Apart n0 B W wr ∧ wr.ownsRow W.heap.size 54 1 (.slice p i c) i (acc.map Ty.val) ∧ acc.length = i ∧ Hid (∀ x ∈ acc, x.atoms ≤ 12) ∧ Hid (TypedQ q) ∧ Hid (J (pre ++ q) wr) ∧ Hid (LeftY m hd a ty bs env acc (ks.drop i))) (fun _ u _ => kl - (intOf u).toNat)
  case atStart => exact ⟨0, none, 0, [], [], Nat.zero_le _, rfl, rfl, Apart.refl _ _ _, World.ownsRow_nil _ _ _ _, rfl, hid (by simp), hid (by intro x hx; simp at hx), hid (by rw [List.append_nil]; exact HJ0.out), hid (by rw [List.drop_zero]; exact HLY.out)⟩
  case round =>
   obtain ⟨i, p, c, acc, q, hi, rfl, rfl, hap, hown, hacc, hsm, hqt, hjq, hly⟩ := hrel
   have hsz := hap.size
   have HAP := hid hap
   have HOWN := hid hown
   have HACC := hid hacc
   clear hap hown hacc
   by_cases hlt : i < kl
   ·obtain ⟨k, hki⟩ : ∃ k, ks[i]? = some k := ⟨_, List.getElem?_eq_getElem (by rw [HKL.out]; exact hlt)⟩
    obtain ⟨g, rfl, hc⟩ := KK.out wr HAP.out i hlt
    have hk1 : 1 ≤ kl := by omega
    have d5 := (ces (KB.out wr HAP.out)).2.2.2.2.2.1
    have hsub0 : (0 : Int) ≤ (kl : Int) - 1 := by omega
    by_cases hlast : i + 1 = kl
    ·have hq : ((i : Int) == (kl : Int) - 1) = true := by simp; omega
     have HBT := hid (boundTypes_any hd ty acc p i c wr (KB.out wr HAP.out) HACC.out (vals_any HOWN.out) (fun h => by
      have := HAR.out
      rcases h with h | h
      ·rw [h] at this; have e2 : kl = 2 := this; omega
      ·rw [h] at this; have e2 : kl = 2 := this; omega) (fun h => HTY.out (by rw [h]; decide)))
     cases hbd : bndT hd.toList ty acc[0]? with
     | none =>
      rw [hbd] at HBT
      have HST := hid (hly.out.stop HKL.out hki (by rw [if_pos hlast]; exact hbd))
      have HYW := hid (fun w1 (h : Below wr.heap.size wr w1) => HY.out (n - 1) (pre ++ q) (b, none) w1 (HJ.out _ wr w1 hjq.out (h.mono (by omega))))
      clear hki hbd hlast
      gi_wp2_with (first
       | ((try refine ⟨trivial, ?_⟩); (try refine ⟨hdd _, ?_⟩); refine hR.mono ?_; clear hR; rintro e w9 (⟨rfl, hj9, ha9⟩ | ⟨rfl, hx9⟩))
       | ((try refine ⟨trivial, ?_⟩); (try refine ⟨hdd _, ?_⟩); gi_at_call 135; refine (callsIn_wide.2 HBT.out).mono ?_; rintro e w1 hp; obtain ⟨q3, n3, c3, rfl, hb1⟩ := hp.none; clear hp; obtain ⟨fn, tmps, assign, body, hy, hR⟩ := HYW.out w1 hb1; simp only [encY, tyV] at hy))
      all_goals go_ret
      ·refine .inl ⟨(HAP.out.below_then (hb1.mono hsz)).trans ha9, q ++ [(b, none)], by rw [HST.out.1]; rfl, ?_, by rw [← List.append_assoc]; exact hj9⟩
       have := tr_self (env := env) hqt.out HN.out (fun _ => HST.out.2)
       rw [HST.out.1] at this; exact this
      ·refine .inr ⟨rfl, q ++ [(b, none)], ?_, by rw [← List.append_assoc]; exact hx9⟩
       have := pt_self (env := env) hqt.out HN.out (fun _ => HST.out.2)
       rw [HST.out.1] at this; exact this
     | some bts =>
      rw [hbd] at HBT
      have HKD := hid (hly.out.kid HKL.out hki (bts := bts) (by rw [if_pos hlast]; exact hbd))
      rw [if_pos hlast] at HKD
      have HBL2 := hid (show bl ≤ bts.length by rw [bndT_len hbd, ← HBL.out, HBX.out]; exact Nat.le_refl _)
      have HBL4 := hid (show bts.length ≤ 4 by
       rw [bndT_len hbd]
       have := List.countP_le_length (p := Sg.isX) (l := shape hd.toList)
       have := HSH.out
       omega)
      have HES := hid (envWith_small HEV.out bs bts (bndT_small hbd (fun t h => hsm.out t (List.mem_of_getElem? h)) HTA.out))
      have HWI := hid (fun q3 c3 w1 (h : Below wr.heap.size wr w1) (hv : Vals w1 q3 (bts.map Ty.val)) => with_any bs bts env (p := bp) (q := q3) (c := bc) (d := c3) (KE.out w1 (HAP.out.below_then (h.mono hsz))) HBL.out rfl HBL2.out HBL4.out (KV.out w1 (HAP.out.below_then (h.mono hsz))) hv)
      have KN := hid (fun w1 (h : Below wr.heap.size wr w1) => (ces (KB.out w1 (HAP.out.below_then (h.mono hsz)))).2.2.2.1)
      obtain ⟨env', henv'⟩ : ∃ env', enw env bs bts = env' := ⟨_, rfl⟩
      rw [henv'] at HKD HES HWI
      have HC := hid (fun n' pe' w2 (h : Apart n0 B W w2) (hz : B ≤ w2.heap.size) (he : EIn w2 (fun k => k < n0 ∨ B ≤ k) env' pe') (hj2 : J (pre ++ q) w2) => HIH.out i k hki env' pe' (pre ++ q) n' w2 HES.out (KH.out w2 h) hz he hj2)
      cases hkt : k.typ env' with
      | some t =>
       obtain ⟨nt, vt, htv⟩ := t.val_iface
       have HC2 := hid (fun n' pe' w2 h hz he hj2 => (HC.out n' pe' w2 h hz he hj2).mono fun e w1 h => h.some hkt htv)
       have HTS := hid (typ_small hkt)
       have HTV := hid htv
       have HL2 := hid (HKD.out.1 t hkt)
       have HPK := hid (fun q2 (h : Pt w0 S k env' q2) => pt_kid (m := m) (env := env) hqt.out h (fun hn => by rw [hkt] at hn; cases hn))
       clear hki hkt htv HC HKD hlast hbd henv'
       gi_wp2_with (first
        | (gi_at_builtin; refine wpListIn_append_own _ rfl (.tmp 58) (.tmp 60) 93 rfl W.heap.size 54 i0 .nilIface 1 16 Tryz.underlying93 hi0 hz0 hz1 hz2 rfl (by decide) (.slice p i c) i _ rfl ((own_apart (own_below HOWN.out HB3.out) hBW ha1).alloc _) ⟨w1.heap.size, 0, none⟩ 1 1 [.iface nt vt] rfl rfl (cen _ _ _ _ rfl) (by intro u hu; simp at hu; subst hu; rfl) (by unfold maxLen; omega) (by omega) (by have := ha1.size; have := hz3.out; simp; omega) ?_; intro v' w4 hown2 hg2 _; obtain ⟨g2, kc2, rfl⟩ := ownsRow_succ hown2; have HG := hid hg2; have HO := hid hown2; clear hg2 hown2)
        | ((try refine ⟨trivial, ?_⟩); (try refine ⟨hdd _, ?_⟩); gi_at_call 107; have _ := HJ3; refine (HC2.out _ pe3 w3 HA3.out (by have := hz3.out; omega) HE3.out HJ3.out).mono ?_; rintro e w1 (⟨q2, rfl, ha1, hq2, hj1⟩ | ⟨q2, rfl, hp1, hx1⟩))
        | ((try refine ⟨trivial, ?_⟩); (try refine ⟨hdd _, ?_⟩); gi_at_call 136; refine (callsIn_wide.2 (HWI.out _ _ w1b hb1 HV1.out)).mono ?_; rintro e w3 ⟨hb3, pe3, rfl, he3⟩; have hb13 := hb1.trans (hb3.mono hb1.size); have HB3 := hid hb13; have HA3 := hid (HAP.out.below_then (hb13.mono hsz)); have hz3 := hid hb13.size; have HE3 := hid (he3.keep (w' := w3) (S' := fun k => k < n0 ∨ B ≤ k) (fun _ _ _ => rfl) (fun k hk _ => hk.elim id (fun h => Or.inr (by have := hb1.size; omega)))); have HJ3 := hid (HJ.out _ wr w3 hjq.out (hb13.mono (by omega))); clear hb13 he3)
        | ((try refine ⟨trivial, ?_⟩); (try refine ⟨hdd _, ?_⟩); gi_at_call 135; refine (callsIn_wide.2 HBT.out).mono ?_; rintro e w1b hp; obtain ⟨q3, c3, rfl, hv1, hb1⟩ := hp.some; clear hp; have HV1 := hid hv1; clear hv1; have kn := KN.out w1b hb1))
       ·go_roundw
        case rel =>
         have hB2 : Below W.heap.size w1 w4 := ((Below.refl W.heap.size w1).alloc (by have := ha1.size; have := hz3.out; omega) _).grown HG.out (by have := ha1.size; have := hz3.out; simp; omega) (fun k e => ((own_apart (own_below HOWN.out HB3.out) hBW ha1).lt k e).1)
         have hA := HA3.out.trans ha1
         refine ⟨i + 1, some ⟨g2, 0, none⟩, kc2, acc ++ [t], q ++ q2, by omega, by go_num, rfl, hA.below_then hB2, ?_, by simp [HACC.out], hid ?_, hid (hqt.out.append hq2), hid ?_, HL2⟩
         ·rw [List.map_append, List.map_cons, List.map_nil, HTV.out]; exact HO.out
         ·intro x hx
          rcases List.mem_append.1 hx with hx | hx
          ·exact hsm.out x hx
          ·simp at hx; subst hx; exact HTS.out
         ·rw [← List.append_assoc]; exact HJ.out _ w1 w4 hj1 (hB2.mono hBW)
        case measure => simp [intOf]; omega
       ·go_ret
        exact .inr ⟨rfl, q ++ q2, HPK.out q2 hp1, by rw [← List.append_assoc]; exact hx1⟩
      | none =>
       have HC2 := hid (fun n' pe' w2 h hz he hj2 => (HC.out n' pe' w2 h hz he hj2).mono fun e w1 h => h.none hkt)
       have HM := hid (HKD.out.2 hkt)
       have HKT := hid hkt
       clear hki hkt HC HKD hlast hbd henv'
       gi_wp2_with (first
        | ((try refine ⟨trivial, ?_⟩); (try refine ⟨hdd _, ?_⟩); gi_at_call 107; have _ := HJ3; refine (HC2.out _ pe3 w3 HA3.out (by have := hz3.out; omega) HE3.out HJ3.out).mono ?_; rintro e w1 ⟨rfl, h1⟩)
        | ((try refine ⟨trivial, ?_⟩); (try refine ⟨hdd _, ?_⟩); gi_at_call 136; refine (callsIn_wide.2 (HWI.out _ _ w1b hb1 HV1.out)).mono ?_; rintro e w3 ⟨hb3, pe3, rfl, he3⟩; have hb13 := hb1.trans (hb3.mono hb1.size); have HB3 := hid hb13; have HA3 := hid (HAP.out.below_then (hb13.mono hsz)); have hz3 := hid hb13.size; have HE3 := hid (he3.keep (w' := w3) (S' := fun k => k < n0 ∨ B ≤ k) (fun _ _ _ => rfl) (fun k hk _ => hk.elim id (fun h => Or.inr (by have := hb1.size; omega)))); have HJ3 := hid (HJ.out _ wr w3 hjq.out (hb13.mono (by omega))); clear hb13 he3)
        | ((try refine ⟨trivial, ?_⟩); (try refine ⟨hdd _, ?_⟩); gi_at_call 135; refine (callsIn_wide.2 HBT.out).mono ?_; rintro e w1b hp; obtain ⟨q3, c3, rfl, hv1, hb1⟩ := hp.some; clear hp; have HV1 := hid hv1; clear hv1; have kn := KN.out w1b hb1))
       go_ret
       rcases h1 with ⟨q2, ha1, htr, hj1⟩ | ⟨q2, hp1, hx1⟩
       ·exact .inl ⟨HA3.out.trans ha1, q ++ q2, by rw [HM.out.1]; rfl, tr_kid hqt.out htr HKT.out HM.out, by rw [← List.append_assoc]; exact hj1⟩
       ·exact .inr ⟨rfl, q ++ q2, pt_kid hqt.out hp1 (fun _ => HM.out), by rw [← List.append_assoc]; exact hx1⟩
    ·have hq : ((i : Int) == (kl : Int) - 1) = false := by simp; omega
     have HKD := hid (hly.out.kid HKL.out hki (bts := []) (by rw [if_neg hlast]))
     rw [if_neg hlast] at HKD
     have HC := hid (fun n' => HIH.out i k hki env pe (pre ++ q) n' wr HEV.out (KH.out wr HAP.out) (by omega) (KE.out wr HAP.out) hjq.out)
     cases hkt : k.typ env with
     | some t =>
      obtain ⟨nt, vt, htv⟩ := t.val_iface
      have HC2 := hid (fun n' => (HC.out n').mono fun e w1 h => h.some hkt htv)
      have HTS := hid (typ_small hkt)
      have HTV := hid htv
      have HL2 := hid (HKD.out.1 t hkt)
      have HPK := hid (fun q2 (h : Pt w0 S k env q2) => pt_kid (m := m) (env := env) hqt.out h (fun hn => by rw [hkt] at hn; cases hn))
      clear hki hkt htv HC HKD hlast
      gi_wp2_with (first
       | (gi_at_builtin; refine wpListIn_append_own _ rfl (.tmp 58) (.tmp 60) 93 rfl W.heap.size 54 i0 .nilIface 1 16 Tryz.underlying93 hi0 hz0 hz1 hz2 rfl (by decide) (.slice p i c) i _ rfl ((own_apart HOWN.out hBW ha1).alloc _) ⟨w1.heap.size, 0, none⟩ 1 1 [.iface nt vt] rfl rfl (cen _ _ _ _ rfl) (by intro u hu; simp at hu; subst hu; rfl) (by unfold maxLen; omega) (by omega) (by have := ha1.size; simp; omega) ?_; intro v' w2 hown2 hg2 _; obtain ⟨g2, kc2, rfl⟩ := ownsRow_succ hown2; have HG := hid hg2; have HO := hid hown2; clear hg2 hown2)
       | ((try refine ⟨trivial, ?_⟩); (try refine ⟨hdd _, ?_⟩); gi_at_call 107; refine (HC2.out _).mono ?_; rintro e w1 (⟨q2, rfl, ha1, hq2, hj1⟩ | ⟨q2, rfl, hp1, hx1⟩)))
      ·go_roundw
       case rel =>
        have hB2 : Below W.heap.size w1 w2 := ((Below.refl W.heap.size w1).alloc (by have := ha1.size; omega) _).grown HG.out (by have := ha1.size; simp; omega) (fun k e => ((own_apart HOWN.out hBW ha1).lt k e).1)
        have hA := HAP.out.trans ha1
        refine ⟨i + 1, some ⟨g2, 0, none⟩, kc2, acc ++ [t], q ++ q2, by omega, by go_num, rfl, hA.below_then hB2, ?_, by simp [HACC.out], hid ?_, hid (hqt.out.append hq2), hid ?_, HL2⟩
        ·rw [List.map_append, List.map_cons, List.map_nil, HTV.out]; exact HO.out
        ·intro x hx
         rcases List.mem_append.1 hx with hx | hx
         ·exact hsm.out x hx
         ·simp at hx; subst hx; exact HTS.out
        ·rw [← List.append_assoc]; exact HJ.out _ w1 w2 hj1 (hB2.mono hBW)
       case measure => simp [intOf]; omega
      ·go_ret
       exact .inr ⟨rfl, q ++ q2, HPK.out q2 hp1, by rw [← List.append_assoc]; exact hx1⟩
     | none =>
      have HC2 := hid (fun n' => (HC.out n').mono fun e w1 h => h.none hkt)
      have HM := hid (HKD.out.2 hkt)
      have HKT := hid hkt
      clear hki hkt HC HKD hlast
      gi_wp2_with ((try refine ⟨trivial, ?_⟩); (try refine ⟨hdd _, ?_⟩); gi_at_call 107; refine (HC2.out _).mono ?_; rintro e w1 ⟨rfl, h1⟩)
      go_ret
      rcases h1 with ⟨q2, ha1, htr, hj1⟩ | ⟨q2, hp1, hx1⟩
      ·exact .inl ⟨HAP.out.trans ha1, q ++ q2, by rw [HM.out.1]; rfl, tr_kid hqt.out htr HKT.out HM.out, by rw [← List.append_assoc]; exact hj1⟩
      ·exact .inr ⟨rfl, q ++ q2, pt_kid hqt.out hp1 (fun _ => HM.out), by rw [← List.append_assoc]; exact hx1⟩
   ·obtain rfl : i = kl := by omega
    have HLD := hid (show LeftY m hd a ty bs env acc [] by have := hly.out; rw [List.drop_of_length_le (by rw [HKL.out]; exact Nat.le_refl _)] at this; exact this).done
    have HLF := hid (limitedFrom_any hd a ty env acc pe p i c wr (KB.out wr HAP.out) HHB.out (by rw [HACC.out]; exact HAR.out) HACC.out (vals_any HOWN.out) HTY.out hsm.out (fun u hu => joinT_small hu HEV.out HTA.out (fun x hx => hsm.out x (List.mem_of_getElem? hx)) (fun x hx => hsm.out x (List.mem_of_getElem? hx))) (KE.out wr HAP.out) (Kept.refl wr))
    rw [← HLD.out.1] at HLF
    have HYW := hid (fun o w1 (h : Below wr.heap.size wr w1) => HY.out (n - 1) (pre ++ q) (b, o) w1 (HJ.out _ wr w1 hjq.out (h.mono (by omega))))
    have HTR := hid (tr_self (env := env) hqt.out HN.out HLD.out.2)
    cases hmt : m.typ env with
    | none =>
     rw [hmt] at HLF HTR
     have HLF2 := hid (HLF.out.mono fun e w1 (h : e = .returned (tyV none) ∧ Below wr.heap.size wr w1) => (show e = .returned .nilIface ∧ Below wr.heap.size wr w1 from ⟨by rw [h.1, tyV], h.2⟩))
     have HMT := hid hmt
     clear hlt hmt HLF
     gi_wp2_with (first
      | ((try refine ⟨trivial, ?_⟩); (try refine ⟨hdd _, ?_⟩); refine hR.mono ?_; clear hR; rintro e w9 (⟨rfl, hj9, ha9⟩ | ⟨rfl, hx9⟩))
      | ((try refine ⟨trivial, ?_⟩); (try refine ⟨hdd _, ?_⟩); gi_at_call 137; refine (callsIn_wide.2 HLF2.out).mono ?_; rintro e w1 ⟨rfl, hb1⟩; obtain ⟨fn, tmps, assign, body, hy, hR⟩ := HYW.out none w1 hb1; simp only [encY, tyV] at hy))
     all_goals go_ret
     ·exact .inl ⟨(HAP.out.below_then (hb1.mono hsz)).trans ha9, q ++ [(b, none)], by rw [HMT.out]; rfl, HTR.out, by rw [← List.append_assoc]; exact hj9⟩
     ·exact .inr ⟨rfl, q ++ [(b, none)], HTR.out.pt, by rw [← List.append_assoc]; exact hx9⟩
    | some t =>
     obtain ⟨nt, vt, htv⟩ := t.val_iface
     rw [hmt] at HLF HTR
     have HLF2 := hid (HLF.out.mono fun e w1 (h : e = .returned (tyV (some t)) ∧ Below wr.heap.size wr w1) => (show e = .returned (.iface nt vt) ∧ Below wr.heap.size wr w1 from ⟨by rw [h.1, tyV, htv], h.2⟩))
     have HMT := hid hmt
     have HTV := hid htv
     clear hlt hmt htv HLF
     gi_wp2_with (first
      | ((try refine ⟨trivial, ?_⟩); (try refine ⟨hdd _, ?_⟩); refine hR.mono ?_; clear hR; rintro e w9 (⟨rfl, hj9, ha9⟩ | ⟨rfl, hx9⟩))
      | ((try refine ⟨trivial, ?_⟩); (try refine ⟨hdd _, ?_⟩); gi_at_call 137; refine (callsIn_wide.2 HLF2.out).mono ?_; rintro e w1 ⟨rfl, hb1⟩; obtain ⟨fn, tmps, assign, body, hy, hR⟩ := HYW.out (some t) w1 hb1; simp only [encY, tyV, HTV.out] at hy))
     all_goals go_ret
     ·exact .inl ⟨(HAP.out.below_then (hb1.mono hsz)).trans ha9, q ++ [(b, some t)], by rw [HMT.out, tyV, HTV.out]; rfl, HTR.out, by rw [← List.append_assoc]; exact hj9⟩
     ·exact .inr ⟨rfl, q ++ [(b, some t)], HTR.out.pt, by rw [← List.append_assoc]; exact hx9⟩
attribute [local go_sem] Oper.semAt_some
theorem typings_in (b : Nat) (pe : Option Addr) (n : Nat) (w : World) : CallsIn Fence.wide n Tryz.prog 64 #[.pointer (some ⟨b, 0, none⟩), .pointer pe] w fun e w' =>
    e = .returned (.func (.func 106) #[] #[.pointer (some ⟨w.heap.size, 0, none⟩), .pointer (some ⟨w.heap.size + 1, 0, none⟩)]) ∧ w' = (w.alloc (.cells #[.pointer (some ⟨b, 0, none⟩)] 50)).alloc (.cells #[.pointer pe] 47) := by
 refine callsIn_of_wp Tryz.func64 rfl trivial ?_ rfl
 simp only [Tryz.ntmps64, List.size_toArray, List.length_cons, List.length_nil, Nat.reduceAdd, Nat.reduceSub, Array.replicate_succ, Array.replicate_zero, List.push_toArray, List.append_toArray, List.nil_append, List.cons_append]
 gi_wp2
 go_ret
 exact ⟨rfl, rfl⟩
theorem typings_iter {S : Nat → Prop} {m : Tm} {b : Nat} {env : List (ByteArray × Ty)} {pe : Option Addr} {g1 g2 : Nat} {w0 w : World} (n : Nat) (hn : NIn w0 S m b) (hm : m.tok) (he : EIn w0 S env pe) (hv : EnvS env) (hw : Below w0.heap.size w0 w)
    (h1 : w.heap[g1]? = some (.cells #[.pointer (some ⟨b, 0, none⟩)] 50 (0, 0))) (h2 : w.heap[g2]? = some (.cells #[.pointer pe] 47 (0, 0))) :
    Iter n Tryz.prog 106 #[.pointer (some ⟨g1, 0, none⟩), .pointer (some ⟨g2, 0, none⟩)] encY w0.heap.size (Tr w0 S m env) (Pt w0 S m env) w := by
 intro l J Jx W hW hJ _ hY h0
 have hWW : Below w0.heap.size w0 W := hw.trans (hW.mono hw.size)
 have hY2 : ∀ n, YRound w0.heap.size W.heap.size J Jx l n := fun n' pre x W1 hj => by
  obtain ⟨fn, tmps, assign, body, hy, hr⟩ := hY pre x W1 hj
  exact ⟨fn, tmps, assign, body, hy, ⟨hr.1, fun c cs _ => hr.2 c cs (fun d h => by cases h)⟩⟩
 have HC := hid (fun n' => yield_in rfl hWW.size J Jx hJ hY2 hn hm env pe [] n' W hv (fun k hk => hWW.block k hk) (Nat.le_refl _) (he.keep (fun k _ hl => hWW.block k hl) (fun k _ hl => Or.inl hl)) h0)
 have hdd : ∀ k : Nat, (Fence.wide.depth.isSome = true → 1 ≤ k) := fun k h => by cases h
 have c1 := cell_of_one (blo h1 hW (lt_of_block h1))
 have c2 := cell_of_one (blo h2 hW (lt_of_block h2))
 clear hn hm he hv hw h1 h2 hW hJ hY h0 hWW hY2
 show CallsIn Fence.wide n Tryz.prog _ #[.func (.yield l) #[] #[], .pointer (some ⟨g1, 0, none⟩), .pointer (some ⟨g2, 0, none⟩)] W _
 refine callsIn_of_wp Tryz.func106 rfl trivial ?_ rfl
 simp only [Tryz.ntmps106, List.size_toArray, List.length_cons, List.length_nil, Nat.reduceAdd, Nat.reduceSub, Array.replicate_succ, Array.replicate_zero, List.push_toArray, List.append_toArray, List.nil_append, List.cons_append]
 gi_wp2_with ((try refine ⟨trivial, ?_⟩); (try refine ⟨hdd _, ?_⟩); gi_at_call 107; refine (HC.out _).mono ?_; rintro e w1 (⟨_, q, rfl, htr, hj⟩ | ⟨rfl, q, hp, hj⟩))
 ·go_end0
  exact ⟨⟨_, rfl⟩, .inl ⟨q, htr, hj⟩⟩
 ·go_end0
  exact ⟨⟨_, rfl⟩, .inr ⟨q, hp, hj⟩⟩
end Go.Proofs.YtfogjomebcponaaGreatDoor
