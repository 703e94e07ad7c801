/- EnvValid and EnvLook: the program's and the model's. -/
import Derived.Test.YtnphopnhioogdaaDoorEnvS
import Derived.Test.YtnphopnhioogdaaDoorStrS
namespace Go.Proofs.YtnphopnhioogdaaDoor
open Go.RowKit

theorem text_of_read {s : ByteArray} {ty : Ty} (h : readTy s = some ty) : ty.text = s := (bytes_of_toList (readTy_write h)).symm
def tyT : Option Ty → ByteArray
  | some t => t.text
  | none => ByteArray.empty
theorem envL_get : ∀ (ns ts : List ByteArray) (l : List (ByteArray × Ty)), envL ns ts = some l → ns.length = ts.length → l.length = ns.length ∧ ∀ (i : Nat) (n t : ByteArray), ns[i]? = some n → ts[i]? = some t → ∃ ty, l[i]? = some (n, ty) ∧ readTy t = some ty
  | [], [], l, h, _ => by obtain rfl : [] = l := Option.some.inj h; exact ⟨rfl, fun i n t h => by simp at h⟩
  | [], _ :: _, _, _, h => by simp at h
  | _ :: _, [], _, _, h => by simp at h
  | n :: ns, t :: ts, l, h, hl => by
    rw [envL] at h
    cases hr : readTy t with
    | none => rw [hr] at h; simp at h
    | some ty =>
      rw [hr] at h
      simp only at h
      split at h
      · cases he : envL ns ts with
        | none => rw [he] at h; simp at h
        | some l2 =>
          rw [he] at h; simp at h; subst h
          obtain ⟨h1, h2⟩ := envL_get ns ts l2 he (by simpa using hl)
          refine ⟨by simp [h1], fun i x y hx hy => ?_⟩
          cases i with
          | zero => simp at hx hy; subst hx; subst hy; exact ⟨ty, by simp, hr⟩
          | succ i => simpa using h2 i x y (by simpa using hx) (by simpa using hy)
      · simp at h
theorem look_l3 {s : List UInt8} {ns ts : List ByteArray} {l : List (ByteArray × Ty)} (h : envL ns ts = some l) (hl : ns.length = ts.length) : ∀ i, i ≤ ns.length → tyT (lookR s (l.take i).reverse) = l3 s ns ts i
  | 0, _ => by simp [lookR, tyT, l3]
  | i + 1, hi => by
    obtain ⟨h1, h2⟩ := envL_get ns ts l h hl
    have hx := List.getElem?_eq_getElem (l := ns) (i := i) (by omega)
    have hy := List.getElem?_eq_getElem (l := ts) (i := i) (by omega)
    obtain ⟨ty, h3, h4⟩ := h2 i _ _ hx hy
    rw [l3_step hx hy, List.take_add_one, h3, Option.toList_some, List.reverse_append, List.reverse_singleton, List.singleton_append, lookR]
    split
    · rw [tyT, text_of_read h4]
    · exact look_l3 h hl i (by omega)
theorem look_mem {s : List UInt8} : ∀ (l : List (ByteArray × Ty)) (ty : Ty), lookR s l = some ty → ∃ n, (n, ty) ∈ l
  | [], ty, h => by simp [lookR] at h
  | (n, t) :: l, ty, h => by
    rw [lookR] at h
    split at h
    · simp at h; subst h; exact ⟨n, List.mem_cons_self ..⟩
    · obtain ⟨m, hm⟩ := look_mem l ty h; exact ⟨m, List.mem_cons_of_mem _ hm⟩
/-- What EnvLook answers. -/
def lkT (ns ts : List ByteArray) (s : ByteArray) : ByteArray := if validB ns ts = true then l3 s.toList ns ts ns.length else ByteArray.empty
def LookPost (ns ts : List ByteArray) (s : ByteArray) (w : World) (e : Ending) (w' : World) : Prop := e = .returned (.tuple #[.string (lkT ns ts s), .bool (decide ((lkT ns ts s).size ≠ 0))]) ∧ Below w.heap.size w w'
theorem envOf_some {ns ts : List ByteArray} {l : List (ByteArray × Ty)} (h : envOf ns ts = some l) : envL ns ts = some l ∧ ns.length = ts.length ∧ validB ns ts = true := by
  have hv := validB_env ns ts
  rw [h] at hv
  unfold envOf at h
  split at h
  · rename_i hc; exact ⟨h, hc.1, hv.symm⟩
  · simp at h
theorem lkT_look {ns ts : List ByteArray} {l : List (ByteArray × Ty)} (s : ByteArray) (h : envOf ns ts = some l) : lkT ns ts s = tyT (lookR s.toList l.reverse) := by
  obtain ⟨h1, h2, h3⟩ := envOf_some h
  rw [lkT, if_pos h3, ← look_l3 h1 h2 ns.length (Nat.le_refl _), List.take_of_length_le (by have := (envL_get ns ts l h1 h2).1; omega)]
theorem lkT_none {ns ts : List ByteArray} (s : ByteArray) (h : envOf ns ts = none) : lkT ns ts s = ByteArray.empty := by
  have hv := validB_env ns ts
  rw [h] at hv
  rw [lkT, if_neg (by rw [← hv]; simp)]
theorem envTy_small {ns ts : List ByteArray} {l : List (ByteArray × Ty)} (h : envOf ns ts = some l) {n : ByteArray} {ty : Ty} (hm : (n, ty) ∈ l) : ∃ t, readTy t = some ty := by
  obtain ⟨h1, h2, _⟩ := envOf_some h
  obtain ⟨h3, h4⟩ := envL_get ns ts l h1 h2
  obtain ⟨i, hi, he⟩ := List.getElem_of_mem hm
  obtain ⟨ty2, h5, h6⟩ := h4 i _ _ (List.getElem?_eq_getElem (l := ns) (i := i) (by omega)) (List.getElem?_eq_getElem (l := ts) (i := i) (by omega))
  rw [List.getElem?_eq_getElem hi, he] at h5
  simp at h5
  exact ⟨_, h5.2 ▸ h6⟩

set_option maxRecDepth 100000 in
set_option maxHeartbeats 1000000 in
theorem implEnvValid_any (ns ts : List ByteArray) (p q : Option Addr) (n m c d : Nat) (w : World) (hn : ns.length = n) (hm : ts.length = m) (hnb : n ≤ 400000000) (hmb : m ≤ 400000000) (hp : Vals w p (ns.map Value.string)) (hq : Vals w q (ts.map Value.string)) (hns : ∀ s ∈ ns, s.size ≤ 400000000) (hts : ∀ s ∈ ts, s.size ≤ 400000000) :
    Calls Tryd.prog 13 #[.slice p n c, .slice q m d] w fun e w' => e = .returned (.bool (validB ns ts)) ∧ Below w.heap.size w w' := by
  have HC := hid (readEnv_any ns ts p q n m c d w hn hm hnb hmb hp hq hns hts)
  have hv := validB_env ns ts
  clear hn hm hnb hmb hp hq hns hts
  cases ho : envOf ns ts with
  | none =>
    rw [ho] at HC hv
    have HV := hid hv
    clear ho hv
    go_enter Tryd.func13, Tryd.ntmps13
    go_wp2_with (go_at_call 36; refine HC.out.mono ?_; rintro e w1 hp; obtain ⟨rfl, hb1⟩ := hp.none; clear hp)
    go_ret
    exact ⟨ret_bool HV.out, hb1⟩
  | some l =>
    rw [ho] at HC hv
    have HV := hid hv
    clear ho hv
    go_enter Tryd.func13, Tryd.ntmps13
    go_wp2_with (go_at_call 36; refine HC.out.mono ?_; rintro e w1 hp; obtain ⟨p1, rfl, hb1, he1⟩ := hp.some; clear hp he1)
    go_ret
    exact ⟨ret_bool HV.out, hb1⟩

set_option maxRecDepth 100000 in
set_option maxHeartbeats 1000000 in
theorem implEnvLook_any (ns ts : List ByteArray) (s : ByteArray) (p q : Option Addr) (n m c d : Nat) (w : World) (hn : ns.length = n) (hm : ts.length = m) (hnb : n ≤ 400000000) (hmb : m ≤ 400000000) (hp : Vals w p (ns.map Value.string)) (hq : Vals w q (ts.map Value.string)) (hns : ∀ s ∈ ns, s.size ≤ 400000000) (hts : ∀ s ∈ ts, s.size ≤ 400000000) :
    Calls Tryd.prog 15 #[.slice p n c, .slice q m d, .string s] w (LookPost ns ts s w) := by
  have HC := hid (readEnv_any ns ts p q n m c d w hn hm hnb hmb hp hq hns hts)
  clear hn hm hnb hmb hp hq hns hts
  unfold LookPost
  cases ho : envOf ns ts with
  | none =>
    rw [ho] at HC
    rw [lkT_none s ho]
    clear ho
    go_enter Tryd.func15, Tryd.ntmps15
    go_wp2_with (go_at_call 36; refine HC.out.mono ?_; rintro e w1 hp; obtain ⟨rfl, hb1⟩ := hp.none; clear hp)
    go_ret2
    exact ⟨rfl, hb1⟩
  | some l =>
    rw [ho] at HC
    rw [lkT_look s ho]
    cases hk : lookR s.toList l.reverse with
    | none =>
      have HK := hid hk
      clear hk ho
      go_enter Tryd.func15, Tryd.ntmps15
      go_wp2_with (first | (go_at_call 39; have _ := hb1; refine (look_any s HE1.out _ (Kept.refl _)).mono ?_; rintro e w2 ⟨hp2, rfl⟩; rw [HK.out] at hp2; obtain ⟨rfl, _⟩ := hp2) | (go_at_call 36; refine HC.out.mono ?_; rintro e w1 hp; obtain ⟨p1, rfl, hb1, he1⟩ := hp.some; have HE1 := hid he1; clear hp he1))
      go_ret2
      exact ⟨rfl, hb1⟩
    | some ty =>
      obtain ⟨x, hx⟩ := look_mem _ ty hk
      obtain ⟨t, ht⟩ := envTy_small ho (List.mem_reverse.1 hx)
      have HT := hid (fun W => typeText_any ty (readTy_small ht) W)
      have hsz : (tyT (some ty)).size ≠ 0 := by rw [tyT, text_size]; have : 0 < ty.write.length := (by cases ty <;> simp [Ty.write]); omega
      have HSZ := hid (show decide ((tyT (some ty)).size ≠ 0) = true from decide_eq_true hsz)
      have HK := hid hk
      obtain ⟨u, v, hv⟩ := ty.val_iface
      have HV := hid hv
      rw [hv] at HT
      clear hk ho hx ht hsz hv
      go_enter Tryd.func15, Tryd.ntmps15
      go_wp2_with (first | (go_at_call 40; have _ := hb1; refine (HT.out _).mono ?_; rintro e w3 ⟨rfl, hb3⟩) | (go_at_call 39; have _ := hb1; refine (look_any s HE1.out _ (Kept.refl _)).mono ?_; rintro e w2 ⟨hp2, rfl⟩; rw [HK.out] at hp2; obtain ⟨he2, _⟩ := hp2; simp only [HV.out] at he2; subst he2) | (go_at_call 36; refine HC.out.mono ?_; rintro e w1 hp; obtain ⟨p1, rfl, hb1, he1⟩ := hp.some; have HE1 := hid he1; clear hp he1))
      go_ret2
      exact ⟨by rw [HSZ.out]; rfl, hb1.trans (hb3.mono hb1.size)⟩

set_option maxRecDepth 100000 in
set_option maxHeartbeats 1000000 in
theorem specEnvLook_any (ns ts : List ByteArray) (s : ByteArray) (p q : Option Addr) (n m c d : Nat) (w : World) (hn : ns.length = n) (hm : ts.length = m) (hnb : n ≤ 400000000) (hmb : m ≤ 400000000) (hp : Vals w p (ns.map Value.string)) (hq : Vals w q (ts.map Value.string)) (hns : ∀ s ∈ ns, s.size ≤ 400000000) (hts : ∀ s ∈ ts, s.size ≤ 400000000) :
    Calls Tryd.prog 33 #[.slice p n c, .slice q m d, .string s] w (LookPost ns ts s w) := by
  have HC := hid (specEnvValid_any ns ts p q n m c d w hn hm hnb hmb hp hq hns hts)
  unfold LookPost
  cases hv : validB ns ts with
  | false =>
    rw [hv] at HC
    rw [show lkT ns ts s = ByteArray.empty by rw [lkT, if_neg (by rw [hv]; simp)]]
    clear hn hm hnb hmb hp hq hns hts hv
    go_enter Tryd.func33, Tryd.ntmps33
    go_wp2_with (go_at_call 14; refine HC.out.mono ?_; rintro e w1 ⟨rfl, hb1⟩)
    go_ret2
    exact ⟨rfl, hb1⟩
  | true =>
    rw [hv] at HC
    have hnm : n = m := by
      have := validB_env ns ts
      rw [hv, Option.isSome_iff_exists] at this
      obtain ⟨l, hl⟩ := this
      have := (envOf_some hl).2.1
      omega
    subst hnm
    have HL := hid (fun W (hk : Kept w W) => l3Look_any s ns ts p q n c d W hn hm hnb (hp.kept hk) (hq.kept hk))
    rw [show lkT ns ts s = l3 s.toList ns ts n by rw [lkT, if_pos hv, hn]]
    obtain ⟨X, hX⟩ : ∃ X, l3 s.toList ns ts n = X := ⟨_, rfl⟩
    rw [hX] at HL ⊢
    clear hn hm hnb hmb hp hq hns hts hv hX
    by_cases h0 : X.size = 0
    · have he := isEmpty_of X h0
      have hx : X = ByteArray.empty := by
        cases X with | mk d => cases d with | mk l => simp [ByteArray.size] at h0; subst h0; rfl
      subst hx
      clear h0
      go_enter Tryd.func33, Tryd.ntmps33
      go_wp2_with (first | (go_at_call 54; refine (HL.out _ (Kept.of_below hb1 (Nat.le_refl _))).mono ?_; rintro e w2 ⟨rfl, rfl⟩) | (go_at_call 14; refine HC.out.mono ?_; rintro e w1 ⟨rfl, hb1⟩))
      go_ret2
      exact ⟨rfl, hb1⟩
    · have he := isEmpty_not X h0
      have HD := hid (show decide (X.size ≠ 0) = true from decide_eq_true h0)
      clear h0
      go_enter Tryd.func33, Tryd.ntmps33
      go_wp2_with (first | (go_at_call 54; refine (HL.out _ (Kept.of_below hb1 (Nat.le_refl _))).mono ?_; rintro e w2 ⟨rfl, rfl⟩) | (go_at_call 14; refine HC.out.mono ?_; rintro e w1 ⟨rfl, hb1⟩))
      go_ret2
      exact ⟨by rw [HD.out]; rfl, hb1⟩
end Go.Proofs.YtnphopnhioogdaaDoor
