/- A tree as a type: the program's typeOfPhrase and readType. -/
import Derived.Test.YtfogjomebcponaaDoorTyB
namespace Go.Proofs.YtfogjomebcponaaDoor
open Go.RowKit

mutual
/-- A tree as a type of any size. -/
def Tree.ty : Tree → Option Ty
  | .atom s => if s.toList = [98] then some .bit else none
  | .node [] => none
  | .node (q :: qs) => match Tree.tys qs with
    | none => none
    | some ks => tyParts q.text.toList ks
def Tree.tys : List Tree → Option (List Ty)
  | [] => some []
  | p :: ps => match p.ty with
    | none => none
    | some t => match Tree.tys ps with
      | none => none
      | some ts => some (t :: ts)
end
theorem tys_none : ∀ (l : List Tree) (i : Nat) (p : Tree), l[i]? = some p → p.ty = none → Tree.tys l = none := by
  intro l; induction l with
  | nil => intro i p h; simp at h
  | cons q l ih =>
    intro i p h hp
    cases i with
    | zero => simp at h; subst h; simp [Tree.tys, hp]
    | succ i =>
      have := ih i p (by simpa using h) hp
      rw [Tree.tys, this]; cases q.ty <;> rfl
theorem tys_append : ∀ (a b : List Tree) (x y : List Ty), Tree.tys a = some x → Tree.tys b = some y → Tree.tys (a ++ b) = some (x ++ y) := by
  intro a; induction a with
  | nil => intro b x y ha hb; simp [Tree.tys] at ha; subst ha; simpa using hb
  | cons q a ih =>
    intro b x y ha hb
    rw [Tree.tys] at ha
    cases hq : q.ty with
    | none => rw [hq] at ha; simp at ha
    | some t =>
      rw [hq] at ha; simp only at ha
      cases hr : Tree.tys a with
      | none => rw [hr] at ha; simp at ha
      | some ts =>
        rw [hr] at ha; simp at ha; subst ha
        simp [Tree.tys, hq, ih b ts y hr hb]
theorem tys_snoc (l : List Tree) (i : Nat) (p : Tree) (ks : List Ty) (t : Ty) (h : l[i]? = some p) (hk : Tree.tys (l.take i) = some ks) (ht : p.ty = some t) : Tree.tys (l.take (i + 1)) = some (ks ++ [t]) := by
  rw [List.take_add_one, h]
  exact tys_append _ _ _ _ hk (by simp [Tree.tys, ht])
theorem tys_length : ∀ (l : List Tree) (ks : List Ty), Tree.tys l = some ks → ks.length = l.length := by
  intro l; induction l with
  | nil => intro ks h; simp [Tree.tys] at h; subst h; rfl
  | cons q l ih =>
    intro ks h
    rw [Tree.tys] at h
    cases hq : q.ty with
    | none => rw [hq] at h; simp at h
    | some t =>
      rw [hq] at h; simp only at h
      cases hr : Tree.tys l with
      | none => rw [hr] at h; simp at h
      | some ts => rw [hr] at h; simp at h; subst h; simp [ih ts hr]

mutual
/-- Atoms have no blanks and are not too long. -/
def Tree.ok : Tree → Prop
  | .atom s => s.size ≤ 12000 ∧ ∀ b ∈ s.toList, b ≠ 32
  | .node ps => Tree.oks ps
def Tree.oks : List Tree → Prop
  | [] => True
  | p :: ps => p.ok ∧ Tree.oks ps
end
theorem oks_part (ps : List Tree) (h : Tree.oks ps) (i : Nat) (p : Tree) (hp : ps[i]? = some p) : p.ok := by
  induction ps generalizing i with
  | nil => simp at hp
  | cons q ps ih =>
    rw [Tree.oks] at h
    cases i with
    | zero => simp at hp; subst hp; exact h.1
    | succ i => exact ih h.2 i (by simpa using hp)
theorem oks_append (a b : List Tree) (ha : Tree.oks a) (hb : Tree.oks b) : Tree.oks (a ++ b) := by
  induction a with
  | nil => simpa using hb
  | cons q a ih => rw [Tree.oks] at ha; simp only [List.cons_append, Tree.oks]; exact ⟨ha.1, ih ha.2⟩
theorem text_ok {t : Tree} (h : t.ok) : t.text.size ≤ 12000 ∧ ∀ b ∈ t.text.toList, b ≠ 32 := by
  cases t with
  | atom s => simpa only [Tree.ok, Tree.text] using h
  | node ps => refine ⟨Nat.zero_le _, ?_⟩; rw [Tree.text, empty_toList]; simp
theorem runF_atoms (s : ByteArray) : ∀ n i j, i ≤ j → j < runF s n i → atomB (byteAt s j) = true := by
  intro n; induction n with
  | zero => intro i j h1 h2; simp [runF] at h2; omega
  | succ n ih =>
    intro i j h1 h2
    rw [runF] at h2
    split at h2
    · rename_i hc
      by_cases hij : j = i
      · rw [hij]; exact hc.2
      · exact ih (i + 1) j (by omega) h2
    · omega
theorem extract_no_space (s : ByteArray) (i : Nat) : ∀ b ∈ (s.extract i (runEnd s i)).toList, b ≠ 32 := by
  intro b hb
  rw [Go.ByteArray.toList_eq] at hb
  obtain ⟨k, hk, rfl⟩ := List.getElem_of_mem hb
  simp at hk
  have hlt : i + k < s.size := by omega
  have ha := runF_atoms s (s.size - i) i (i + k) (by omega) (by unfold runEnd at hk; omega)
  rw [byteAt_lt s _ hlt] at ha
  intro e
  have hv : s[i + k].toNat = 32 := by
    have : (s.extract i (runEnd s i)).data.toList[k] = s[i + k] := by simp [ByteArray.getElem_eq_getElem_data]
    rw [← this, e]; rfl
  rw [hv] at ha
  exact absurd ha (by decide)
theorem rdL_ok (s : ByteArray) (f : Nat → Option (Tree × Nat)) (hf : ∀ i p e, f i = some (p, e) → p.ok) :
    ∀ n i acc p e, Tree.oks acc → rdL s f n i acc = some (p, e) → p.ok := by
  intro n; induction n with
  | zero => intro i acc p e _ h; simp [rdL] at h
  | succ n ih =>
    intro i acc p e ha h
    rw [rdL] at h
    cases hr : f (i + 1) with
    | none => rw [hr] at h; simp at h
    | some x =>
      obtain ⟨p1, e1⟩ := x
      have hb := hf _ _ _ hr
      have hacc : Tree.oks (acc ++ [p1]) := oks_append _ _ ha (by rw [Tree.oks]; exact ⟨hb, by rw [Tree.oks]; trivial⟩)
      rw [hr] at h; simp only at h
      split at h
      · split at h
        · simp only [Option.some.injEq, Prod.mk.injEq] at h
          obtain ⟨rfl, _⟩ := h
          rw [Tree.ok]; exact hacc
        · split at h
          · exact ih _ _ _ _ hacc h
          · simp at h
      · simp at h
theorem rd_ok (s : ByteArray) (hs : s.size ≤ 12000) : ∀ k i p e, rd s k i = some (p, e) → p.ok := by
  intro k; induction k with
  | zero => intro i p e h; simp [rd] at h
  | succ k ih =>
    intro i p e h
    rw [rd] at h
    split at h
    · split at h
      · exact rdL_ok s _ ih _ _ _ _ _ (by rw [Tree.oks]; trivial) h
      · split at h
        · simp at h
        · simp only [Option.some.injEq, Prod.mk.injEq] at h
          obtain ⟨rfl, _⟩ := h
          rw [Tree.ok]
          exact ⟨by have := runEnd_le s i (by omega); simp [ByteArray.size_extract]; omega, extract_no_space s i⟩
    · simp at h
theorem parse_ok {s : ByteArray} {t : Tree} (h : parse s = some t) : t.ok := by
  unfold parse at h
  split at h
  · rename_i hs
    cases hr : rd s 101 0 with
    | none => rw [hr] at h; simp at h
    | some x =>
      obtain ⟨p, e⟩ := x
      rw [hr] at h; simp only at h
      split at h
      · simp at h; subst h; exact rd_ok s hs _ _ _ _ hr
      · simp at h
  · simp at h

theorem Tryd.infoNode : (Tryd.prog.info? 32).map (fun i => (i.zero, i.size, i.bytes)) = some (some .nilIface, 1, 16) := by kernel_rfl
theorem TyPost.none {w w' : World} {e : Ending} (h : TyPost none w e w') : e = .returned (.tuple #[.nilIface, .bool false]) ∧ Below w.heap.size w w' := h
theorem TyPost.some {w w' : World} {e : Ending} {t : Ty} (h : TyPost (some t) w e w') : e = .returned (.tuple #[t.val, .bool true]) ∧ Below w.heap.size w w' := h

set_option maxRecDepth 100000 in
set_option maxHeartbeats 4000000 in
theorem typeOfPhrase_any {w0 : World} {S : Nat → Prop} {t : Tree} {h : Hd} (ht : TIn w0 S t h) : t.wt ≤ 12000 → t.ok → ∀ w, Kept w0 w → w0.heap.size ≤ w.heap.size →
    Calls Tryd.prog 36 #[.agg #[.string h.a, .slice h.p h.l h.c]] w (TyPost t.ty w) := by
  induction ht with
  | atom s hne hm =>
    intro _ _ w _ _
    by_cases hb : s.toList = [98]
    · have h1 : (s.toList == [98]) = true := by simp [hb]
      have HB := hid hb
      clear hb
      go_enter Tryd.func36, Tryd.ntmps36
      go_wp2
      go_ret2
      exact ⟨by rw [Tree.ty, if_pos HB.out]; rfl, (Below.refl _ _).alloc (by simp) _⟩
    · have h1 : (s.toList == [98]) = false := by simpa using hb
      have HB := hid hb
      clear hb
      go_enter Tryd.func36, Tryd.ntmps36
      go_wp2
      go_ret2
      exact ⟨by rw [Tree.ty, if_neg HB.out]; rfl, (Below.refl _ _).alloc (by simp) _⟩
  | node ps b cap A hp hl hc hS hA hB hps ih =>
    intro hwt hok w hk hw
    obtain ⟨q, qs, rfl⟩ : ∃ q qs, ps = q :: qs := by cases ps with | nil => simp at hp | cons q qs => exact ⟨q, qs, rfl⟩
    have hlen := wts_length (q :: qs)
    rw [Tree.wt] at hwt
    have hq := (hps 0 q rfl).text
    obtain ⟨n, hn⟩ : ∃ n, n = qs.length := ⟨_, rfl⟩
    have hlq : (q :: qs).length = n + 1 := by rw [hn]; rfl
    rw [Tree.ok] at hok
    have hqt := text_ok (oks_part _ hok 0 q rfl)
    rw [hlq] at hp hl hA hB hlen ⊢
    have c0 : w.cell? ⟨b, 0, none⟩ = some (.string (A 0).a) := by have := hk.cell (hA 0 hp); simpa using this
    have HQ := hid hq
    have HQT := hid hqt
    have HN := hid hn
    have HIH := hid ih
    have HA := hid hA
    have HB := hid hB
    have HK := hid hk
    have HOK := hid hok
    have HWT := hid hwt
    clear hn hq hqt ih hA hB hk hok hps hlq
    have hn2 : n + 1 ≤ 12000 := by omega
    have he : (ByteArray.empty.toList == [98]) = false := by rw [empty_toList]; rfl
    have d0 : ((n : Int) + 1 == 0) = false := beq_eq_false_iff_ne.2 (by omega)
    have hmc : cap ≤ 9223372036854775807 := by unfold maxLen at hc; omega
    by_cases hcap : cap = 1
    · obtain rfl : n = 0 := by omega
      subst hcap
      go_enter Tryd.func36, Tryd.ntmps36
      go_wp2_with fail
      refine wp_loop_rounds 1 ?_
      rw [rounds_succ]
      have c1 : ∀ o, (w.alloc o).cell? ⟨b, 0, none⟩ = some (.string (A 0).a) := fun o => (World.cell?_of_block (w := w) (heap_alloc_old w o (World.block_lt_of_cell? w _ c0))).trans c0
      have HC := hid (fun W => typeOfParts_any (A 0).a [] none 0 0 W rfl (fun i v h => by simp at h) (by rw [HQ.out]; exact HQT.out.1) (by omega) (by rw [HQ.out]; exact HQT.out.2))
      go_wp2_with (go_at_call 49; refine (HC.out _).mono ?_; rintro e w1 hp; obtain ⟨rfl, hb1⟩ := hp.none; clear hp)
      go_ret2
      refine ⟨?_, ((Below.refl _ _).alloc (by simp) _).trans (hb1.mono (by simp))⟩
      have : qs = [] := List.eq_nil_of_length_eq_zero HN.out.symm
      rw [this, Tree.ty, Tree.tys]; rfl
    · go_enter Tryd.func36, Tryd.ntmps36
      go_wp2_with fail
      go_loopw [4, 22] (fun v u wr => ∃ (i kc : Nat) (kp : Option Addr) (ks : List Ty), i ≤ n ∧ u = .int .i64 (i : Int) ∧ v = .slice kp i kc ∧ Hid (Tree.tys (qs.take i) = some ks) ∧
          wr.ownsRow (w.heap.size + 1) 32 1 (.slice kp i kc) i (ks.map Ty.val) ∧ Below (w.heap.size + 1) (w.alloc (.cells #[.string ByteArray.empty, .slice (some ⟨b, 0, none⟩) (n + 1) cap] 45)) wr) (fun _ u _ => n - (intOf u).toNat)
      case atStart => exact ⟨0, 0, none, [], Nat.zero_le _, rfl, rfl, rfl, World.ownsRow_nil _ _ _ _, Below.refl _ _⟩
      case round =>
        obtain ⟨i, kc, kp, ks, hi, rfl, rfl, htys, hown, hbel⟩ := hrel
        have hz := hbel.size
        simp at hz
        have kb : Kept w wr := ((Kept.refl w).alloc (Nat.le_refl _) _).below hbel (by omega)
        have c1 := cells_of_pair (block_below (heap_new w (.cells #[.string ByteArray.empty, .slice (some ⟨b, 0, none⟩) (n + 1) cap] 45) w.heap.size rfl) hbel (by omega))
        have HOWN := hid hown
        clear hown
        by_cases hlt : i < n
        · obtain ⟨p, hp⟩ : ∃ p, qs[i]? = some p := ⟨_, List.getElem?_eq_getElem (by rw [← HN.out]; exact hlt)⟩
          have kw : Kept w0 wr := HK.out.trans kb hw
          have ca : wr.cell? ⟨b, 2 + i * 2, none⟩ = some (.string (A (i + 1)).a) := by
            have := kw.cell (HA.out (i + 1) (by omega)); rwa [show (i + 1) * 2 = 2 + i * 2 by omega] at this
          have cb : wr.cell? ⟨b, 2 + i * 2 + 1, none⟩ = some (.slice (A (i + 1)).p (A (i + 1)).l (A (i + 1)).c) := by
            have := kw.cell (HB.out (i + 1) (by omega)); rwa [show (i + 1) * 2 = 2 + i * 2 by omega] at this
          have HC := hid (fun W hk hs => HIH.out (i + 1) p (by simpa using hp) (by have := wt_part (q :: qs) (i + 1) p (by simpa using hp); have := HWT.out; omega) (oks_part _ HOK.out (i + 1) p (by simpa using hp)) W hk hs)
          have HKW := hid (fun o => kw.alloc (by omega) o)
          have HP := hid hp
          clear hp kb kw
          cases hty : p.ty with
          | none =>
            have HT := hid hty
            clear hty
            go_wp2_with (go_at_call 36; refine (HC.out _ (HKW.out _) (by simp; omega)).mono ?_; rintro e w1 hp; rw [HT.out] at hp; obtain ⟨rfl, hb1⟩ := hp.none; clear hp)
            go_ret2
            refine ⟨?_, ((Below.refl _ _).alloc (by simp) _).trans ((hbel.mono (by omega)).trans (((Below.refl _ _).alloc (by omega) _).trans (hb1.mono (by simp; omega))))⟩
            rw [Tree.ty, tys_none qs i p HP.out HT.out]; rfl
          | some tp =>
            have HT := hid hty
            clear hty
            obtain ⟨i0, hi0, hz0, hz1, hz2⟩ := info_parts Tryd.infoNode
            obtain ⟨ui, vi, hvi⟩ := tp.val_iface
            have HV := hid hvi
            clear hvi
            go_wp2_with (first | (at_builtin; refine wpList_append_at _ rfl (.tmp 33) (.tmp 35) 91 rfl (w.heap.size + 1) 32 i0 .nilIface 1 16 Tryd.underlying91 hi0 hz0 hz1 hz2 rfl (by decide) (.slice kp i kc) i _ rfl ((ownsRow_under ((HOWN.out).alloc _) hb1).alloc _) ⟨w1.heap.size, 0, none⟩ 1 1 [.iface ui vi] rfl rfl (cells_new1 _ _ _ _ rfl) (by intro u hu; simp at hu; subst hu; rfl) (by decide) (by unfold maxLen; omega) (by omega) (by have := hb1.size; simp at this ⊢; omega) ?_; intro v' w2 hown2 hg2 hw2 hv2; obtain ⟨g2, kc2, rfl⟩ := hv2; have HG := hid hg2; have HO := hid hown2; clear hg2 hown2 hw2) | (go_at_call 36; refine (HC.out _ (HKW.out _) (by simp; omega)).mono ?_; rintro e w1 hp; rw [HT.out] at hp; obtain ⟨he1, hb1⟩ := hp.some; rw [HV.out] at he1; subst he1; clear hp))
            go_roundw
            case rel =>
              refine ⟨i + 1, kc2, some ⟨g2, 0, none⟩, ks ++ [tp], by omega, by go_num, rfl, tys_snoc qs i p ks tp HP.out htys.out HT.out, ?_, ?_⟩
              · rw [List.map_append]; simp only [List.map_cons, List.map_nil]; rw [HV.out]; exact HO.out
              · have hlo := HOWN.out.lt
                have s1 := hb1.size
                simp at s1
                exact (((hbel.alloc (by omega) _).trans (hb1.mono (by simp; omega))).alloc (by omega) _).grown HG.out (by simp; omega) (fun k e => (hlo k e).1)
            case measure => simp [intOf]; omega
        · have hin : i = n := by omega
          have HI := hid hin
          have HVL := hid (vals_any HOWN.out)
          have hks : Tree.tys qs = some ks := by
            have := htys.out; rwa [List.take_of_length_le (by rw [HN.out] at hin; omega)] at this
          have HKS := hid hks
          have hkl : ks.length = i := by rw [tys_length qs ks hks, ← HN.out, hin]
          have c2 : wr.cell? ⟨b, 0, none⟩ = some (.string (A 0).a) := kb.cell c0
          have HC := hid (fun W (hk : Kept wr W) => typeOfParts_any (A 0).a ks kp i kc W hkl (HVL.out.kept hk) (by rw [HQ.out]; exact HQT.out.1) (by omega) (by rw [HQ.out]; exact HQT.out.2))
          clear hin hks hkl kb
          have hq : (Tree.node (q :: qs)).ty = tyParts (A 0).a.toList ks := by rw [Tree.ty, HKS.out, HQ.out]
          have HQY := hid hq
          clear hq
          cases hT : tyParts (A 0).a.toList ks with
          | none =>
            have HT := hid hT
            clear hT
            go_wp2_with (go_at_call 49; refine (HC.out _ (Kept.refl _)).mono ?_; rintro e w1 hp; rw [HT.out] at hp; obtain ⟨rfl, hb1⟩ := hp.none; clear hp)
            go_ret2
            rw [HQY.out, HT.out]
            exact ⟨rfl, ((Below.refl _ _).alloc (by simp) _).trans ((hbel.mono (by omega)).trans (hb1.mono (by omega)))⟩
          | some tp =>
            have HT := hid hT
            clear hT
            go_wp2_with (go_at_call 49; refine (HC.out _ (Kept.refl _)).mono ?_; rintro e w1 hp; rw [HT.out] at hp; obtain ⟨rfl, hb1⟩ := hp.some; clear hp)
            go_ret2
            rw [HQY.out, HT.out]
            exact ⟨rfl, ((Below.refl _ _).alloc (by simp) _).trans ((hbel.mono (by omega)).trans (hb1.mono (by omega)))⟩

/-- What a tree is as a type with few atoms. -/
def tyLim (t : Tree) : Option Ty := if t.size ≤ 12 then t.ty else none

set_option maxRecDepth 100000 in
set_option maxHeartbeats 2000000 in
theorem limitedType_any {w0 : World} {S : Nat → Prop} {t : Tree} {h : Hd} (ht : TIn w0 S t h) (hwt : t.wt ≤ 12000) (hok : t.ok) (w : World) (hk : Kept w0 w) (hw : w0.heap.size ≤ w.heap.size) :
    Calls Tryd.prog 23 #[.agg #[.string h.a, .slice h.p h.l h.c]] w (TyPost (tyLim t) w) := by
  have hsz := size_le_wt t
  have HD := hid (fun W hk hs => atoms_any ht (by omega) W hk hs)
  have HE := hid (fun W hk hs => typeOfPhrase_any ht hwt hok W hk hs)
  have HK := hid hk
  clear ht hok hk
  obtain ⟨pa, pp, pl, pc⟩ := h
  by_cases h12 : t.size ≤ 12
  · have HR := hid (show tyLim t = t.ty by rw [tyLim, if_pos h12])
    cases hty : t.ty with
    | none =>
      have HT := hid hty
      clear hty
      go_enter Tryd.func23, Tryd.ntmps23
      go_wp2_with (first | (go_at_call 35; refine (HD.out _ (HK.out.alloc hw _) (by simp; omega)).mono ?_; rintro e w2 ⟨rfl, hb2⟩; have k2 := cells_of_pair (block_below (heap_new w (.cells #[.string pa, .slice pp pl pc] 45) _ rfl) hb2 (by simp))) | (go_at_call 36; refine (HE.out _ ((HK.out.alloc hw _).below hb2 (by simp; omega)) (by have := hb2.size; simp at this; omega)).mono ?_; rintro e w3 hp; rw [HT.out] at hp; obtain ⟨rfl, hb3⟩ := hp.none; clear hp))
      go_ret2
      rw [HR.out, HT.out]
      have s2 := hb2.size
      simp at s2
      exact ⟨rfl, ((Below.refl _ _).alloc (by omega) _).trans ((hb2.mono (by simp)).trans (hb3.mono (by omega)))⟩
    | some tp =>
      have HT := hid hty
      clear hty
      go_enter Tryd.func23, Tryd.ntmps23
      go_wp2_with (first | (go_at_call 35; refine (HD.out _ (HK.out.alloc hw _) (by simp; omega)).mono ?_; rintro e w2 ⟨rfl, hb2⟩; have k2 := cells_of_pair (block_below (heap_new w (.cells #[.string pa, .slice pp pl pc] 45) _ rfl) hb2 (by simp))) | (go_at_call 36; refine (HE.out _ ((HK.out.alloc hw _).below hb2 (by simp; omega)) (by have := hb2.size; simp at this; omega)).mono ?_; rintro e w3 hp; rw [HT.out] at hp; obtain ⟨rfl, hb3⟩ := hp.some; clear hp))
      go_ret2
      rw [HR.out, HT.out]
      have s2 := hb2.size
      simp at s2
      exact ⟨rfl, ((Below.refl _ _).alloc (by omega) _).trans ((hb2.mono (by simp)).trans (hb3.mono (by omega)))⟩
  · have HR := hid (show tyLim t = none by rw [tyLim, if_neg h12])
    have h13 : 12 < t.size := by omega
    clear h12
    go_enter Tryd.func23, Tryd.ntmps23
    go_wp2_with (go_at_call 35; refine (HD.out _ (HK.out.alloc hw _) (by simp; omega)).mono ?_; rintro e w2 ⟨rfl, hb2⟩)
    go_ret2
    rw [HR.out]
    exact ⟨rfl, ((Below.refl _ _).alloc (by omega) _).trans (hb2.mono (by simp))⟩

/-- What a text is as a type, by the program's reading. -/
def readTy (s : ByteArray) : Option Ty :=
  match parse s with
  | some t => if t.size ≤ 12 then t.ty else none
  | none => none
end Go.Proofs.YtfogjomebcponaaDoor
