/- Merged: TyR0, TyR, ThkG, LwT. -/
import Derived.Test.YtagifgekhboinaaGreatDoorDASSpecT
import Derived.Test.YtagifgekhboinaaGreatDoorDA9
import Derived.Test.YtagifgekhboinaaGreatDoorDA0
namespace Go.Proofs.YtagifgekhboinaaGreatDoor
open Go.RowKit

theorem typeTree_some {s : ByteArray} {t : Tree} (h : typeTree s = some t) : parse s = some t ∧ t.size ≤ 12 ∧ ∃ ty, t.ty = some ty ∧ readTy s = some ty ∧ t.kind = ty.kindS := by
  unfold typeTree at h
  cases hp : parse s with
  | none => rw [hp] at h; simp at h
  | some u =>
    rw [hp] at h; simp only at h
    split at h
    · rename_i hc
      simp at h; subst h
      have hk := kind_ty u
      cases hty : u.ty with
      | none => rw [hk, hty, kindOf, empty_toList] at hc; simp at hc
      | some ty => exact ⟨rfl, hc.2, ty, rfl, by rw [readTy, hp]; simp [hc.2, hty], by rw [hk, hty]; rfl⟩
    · simp at h
theorem typeTree_none {s : ByteArray} (h : typeTree s = none) : readTy s = none := by
  unfold typeTree at h
  unfold readTy
  cases hp : parse s with
  | none => rfl
  | some u =>
    rw [hp] at h; simp only at h ⊢
    by_cases h12 : u.size ≤ 12
    · rw [if_pos h12]
      cases hty : u.ty with
      | none => rfl
      | some ty =>
        exfalso
        have hk := kind_ty u
        rw [hty] at hk
        have := kindS_some ty
        rw [show ty.kindS = u.kind from hk.symm] at this
        rw [if_pos ⟨this, h12⟩] at h
        simp at h
    · rw [if_neg h12]
end Go.Proofs.YtagifgekhboinaaGreatDoor

namespace Go.Proofs.YtagifgekhboinaaGreatDoor
open Go.RowKit

set_option maxRecDepth 100000 in
set_option maxHeartbeats 2000000 in
theorem readType_any (s : ByteArray) (hs : s.size ≤ 400000000) (w : World) : Calls Tryz.prog 15 #[.string s] w (TyPost (readTy s) w) := by
  have HC := hid (fun W => readPhrase_any s hs W)
  cases hp : parse s with
  | none =>
    have HP := hid hp
    have HR := hid (show readTy s = none by rw [readTy, hp])
    clear hp
    go_enter Tryz.func15, Tryz.ntmps15
    go_wp2_with (go_at_call 29; refine (HC.out _).mono ?_; rintro e w1 hp; rw [HP.out] at hp; obtain ⟨pa, pp, pl, pc, rfl, hpl, hb1⟩ := hp.none; clear hp)
    go_ret2
    rw [HR.out]
    exact ⟨rfl, hb1.alloc hb1.size _⟩
  | some t =>
    have hwt := parse_wt hp
    have hok := hid (parse_ok hp)
    have HP := hid hp
    have HR := hid (show readTy s = tyLim t by rw [readTy, hp]; rfl)
    clear hp
    cases hty : tyLim t with
    | none =>
      have HT := hid hty
      clear hty
      go_enter Tryz.func15, Tryz.ntmps15
      go_wp2_with (first | (go_at_call 29; refine (HC.out _).mono ?_; rintro e w1 hp; rw [HP.out] at hp; obtain ⟨pa, pp, pl, pc, rfl, hb1, ht⟩ := hp.some; clear hp; have HD := hid (fun W hk hs => limitedType_any ht hwt hok.out W hk hs); clear ht) | (go_at_call 30; refine (HD.out _ ((Kept.refl _).alloc (Nat.le_refl _) _) (by simp)).mono ?_; rintro e w3 hp; rw [HT.out] at hp; obtain ⟨rfl, hb3⟩ := hp.none; clear hp))
      go_ret2
      rw [HR.out, HT.out]
      have s1 := hb1.size
      exact ⟨rfl, hb1.trans (((Below.refl _ _).alloc (by omega) _).trans (hb3.mono (by simp; omega)))⟩
    | some tp =>
      have HT := hid hty
      clear hty
      go_enter Tryz.func15, Tryz.ntmps15
      go_wp2_with (first | (go_at_call 29; refine (HC.out _).mono ?_; rintro e w1 hp; rw [HP.out] at hp; obtain ⟨pa, pp, pl, pc, rfl, hb1, ht⟩ := hp.some; clear hp; have HD := hid (fun W hk hs => limitedType_any ht hwt hok.out W hk hs); clear ht) | (go_at_call 30; refine (HD.out _ ((Kept.refl _).alloc (Nat.le_refl _) _) (by simp)).mono ?_; rintro e w3 hp; rw [HT.out] at hp; obtain ⟨rfl, hb3⟩ := hp.some; clear hp))
      go_ret2
      rw [HR.out, HT.out]
      have s1 := hb1.size
      exact ⟨rfl, hb1.trans (((Below.refl _ _).alloc (by omega) _).trans (hb3.mono (by simp; omega)))⟩
end Go.Proofs.YtagifgekhboinaaGreatDoor

namespace Go.Proofs.YtagifgekhboinaaGreatDoor
open Go.RowKit

/-- A computation type's text in a thunk's. -/
def thunkS (s : ByteArray) : ByteArray := (({ data := #[40, 117, 32] } : ByteArray) ++ s) ++ ({ data := #[41] } : ByteArray)
theorem thunkS_data (s : ByteArray) : (thunkS s).data.toList = [40, 117, 32] ++ (s.data.toList ++ [41]) := by simp [thunkS]
theorem thunkS_size (s : ByteArray) : (thunkS s).size = s.size + 4 := by
  have : (thunkS s).data.toList.length = s.size + 4 := by rw [thunkS_data]; simp
  simpa using this
theorem byteAt_list (s : ByteArray) (i : Nat) : byteAt s i = ((s.data.toList[i]?).map UInt8.toNat).getD 0 := by
  unfold byteAt
  split
  · rename_i h
    rw [List.getElem?_eq_getElem (by simpa using h)]; rfl
  · rename_i h
    rw [List.getElem?_eq_none (by simp; omega)]; rfl
theorem byteAt_thunk (s : ByteArray) (i : Nat) (h : i < s.size) : byteAt (thunkS s) (3 + i) = byteAt s i := by
  rw [byteAt_list, byteAt_list, thunkS_data, List.getElem?_append_right (by simp), List.getElem?_append_left (by simp; omega)]
  simp
theorem byteAt_thunk_end (s : ByteArray) : byteAt (thunkS s) (3 + s.size) = 41 := by
  rw [byteAt_list, thunkS_data, List.getElem?_append_right (by simp), List.getElem?_append_right (by simp)]
  simp
theorem byteAt_thunk_head (s : ByteArray) : byteAt (thunkS s) 0 = 40 ∧ byteAt (thunkS s) 1 = 117 ∧ byteAt (thunkS s) 2 = 32 := by
  refine ⟨?_, ?_, ?_⟩ <;> rw [byteAt_list, thunkS_data] <;> rfl
theorem extract_thunk (s : ByteArray) (i j : Nat) (hj : j ≤ s.size) : (thunkS s).extract (3 + i) (3 + j) = s.extract i j := by
  apply ByteArray.ext
  apply Array.ext'
  simp only [ByteArray.data_extract, Array.toList_extract]
  have e : List.extract ([40, 117, 32] ++ (s.data.toList ++ [41])) (3 + i) (3 + j) = (s.data.toList.drop i).take (j - i) := by
    rw [List.extract_eq_take_drop]
    have e1 : ([40, 117, 32] ++ (s.data.toList ++ [41])).drop (3 + i) = (s.data.toList ++ [41]).drop i := by
      rw [List.drop_append]; simp
    have e2 : 3 + j - (3 + i) = j - i := by omega
    rw [e1, e2]
    by_cases h : i ≤ s.data.toList.length
    · rw [List.drop_append_of_le_length h, List.take_append_of_le_length (by simp at h ⊢; omega)]
    · have : j - i = 0 := by simp at h; omega
      rw [this]; simp
  rw [thunkS_data, e, List.extract_eq_take_drop]
theorem runEnd_thunk (s : ByteArray) : ∀ n i, s.size - i = n → i ≤ s.size → runEnd (thunkS s) (3 + i) = 3 + runEnd s i := by
  intro n; induction n with
  | zero =>
    intro i hn hi
    obtain rfl : i = s.size := by omega
    rw [runEnd_stop (thunkS s), runEnd_stop s]
    · intro h; omega
    · intro h; have := h.2; rw [byteAt_thunk_end] at this; exact absurd this (by decide)
  | succ n ih =>
    intro i hn hi
    have hlt : i < s.size := by omega
    by_cases ha : atomB (byteAt s i) = true
    · rw [runEnd_go s i hlt ha, runEnd_go (thunkS s) (3 + i) (by rw [thunkS_size]; omega) (by rw [byteAt_thunk s i hlt]; exact ha)]
      exact ih (i + 1) (by omega) (by omega)
    · rw [runEnd_stop s, runEnd_stop (thunkS s)]
      · intro h; have := h.2; rw [byteAt_thunk s i hlt] at this; exact ha this
      · intro h; exact ha h.2

theorem rdL_thunk (s : ByteArray) (f g : Nat → Option (Tree × Nat)) (hb : ∀ i p e, f i = some (p, e) → i < e ∧ e ≤ (thunkS s).size)
    (hfg : ∀ i t e, i ≤ s.size → f (3 + i) = some (t, e) → e ≤ 3 + s.size → g i = some (t, e - 3)) :
    ∀ n i acc t e, i ≤ s.size → rdL (thunkS s) f n (3 + i) acc = some (t, e) → e ≤ 3 + s.size → ∀ m, s.size < m + i → (∀ j q x, g j = some (q, x) → j < x ∧ x ≤ s.size) → rdL s g m i acc = some (t, e - 3) := by
  intro n; induction n with
  | zero => intro i acc t e _ h; simp [rdL] at h
  | succ n ih =>
    intro i acc t e hi h he m hm hg
    have hbd := rdL_bound (thunkS s) f hb _ _ _ _ _ h
    rw [rdL] at h
    cases hr : f (3 + i + 1) with
    | none => rw [hr] at h; simp at h
    | some x =>
      obtain ⟨p, e1⟩ := x
      have hb1 := hb _ _ _ hr
      rw [hr] at h; simp only at h
      rw [thunkS_size] at hb1
      rw [if_pos (by rw [thunkS_size]; split at h <;> first | (rename_i hlt; rw [thunkS_size] at hlt; exact hlt) | simp at h)] at h
      have he1 : e1 < 3 + s.size := by
        split at h
        · simp only [Option.some.injEq, Prod.mk.injEq] at h; omega
        · split at h
          · have := rdL_bound (thunkS s) f hb _ _ _ _ _ h; omega
          · simp at h
      have hi1 : i + 1 ≤ s.size := by omega
      have hgi : g (i + 1) = some (p, e1 - 3) := hfg (i + 1) p e1 hi1 (by rw [show 3 + (i + 1) = 3 + i + 1 by omega]; exact hr) (by omega)
      obtain ⟨d, rfl⟩ : ∃ d, e1 = 3 + d := ⟨e1 - 3, by omega⟩
      have hd : d < s.size := by omega
      rw [byteAt_thunk s d hd] at h
      have e3 : 3 + d - 3 = d := by omega
      rw [e3] at hgi
      obtain ⟨m', rfl⟩ : ∃ m', m = m' + 1 := ⟨m - 1, by have := hg _ _ _ hgi; omega⟩
      rw [rdL, hgi]
      simp only
      rw [if_pos hd]
      split at h
      · rename_i h41
        simp only [Option.some.injEq, Prod.mk.injEq] at h
        rw [if_pos h41, h.1, ← h.2]
        congr 2
        omega
      · rename_i h41
        rw [if_neg h41]
        split at h
        · rename_i h32
          rw [if_pos h32]
          exact ih d _ t e (by omega) h he m' (by omega) hg
        · simp at h

theorem rd_thunk (s : ByteArray) : ∀ k i t e, i ≤ s.size → rd (thunkS s) k (3 + i) = some (t, e) → e ≤ 3 + s.size → rd s k i = some (t, e - 3) := by
  intro k; induction k with
  | zero => intro i t e _ h; simp [rd] at h
  | succ k ih =>
    intro i t e hi h he
    have hrun := runEnd_thunk s _ i rfl hi
    have hbd := rd_bound _ _ _ _ _ h
    have hlt : i < s.size := by omega
    rw [rd, if_pos (by rw [thunkS_size]; omega), byteAt_thunk s i hlt] at h
    rw [rd, if_pos hlt]
    split at h
    · rename_i h40
      rw [if_pos h40]
      exact rdL_thunk s _ _ (rd_bound (thunkS s) k) (fun i t e h1 h2 h3 => ih i t e h1 h2 h3) _ i [] t e hi h he _ (by omega) (rd_bound s k)
    · rename_i h40
      rw [if_neg h40]
      rw [hrun] at h
      split at h
      · simp at h
      · rename_i hne
        rw [if_neg (by omega)]
        simp only [Option.some.injEq, Prod.mk.injEq] at h
        have := runEnd_le s i hi
        rw [extract_thunk s i _ this] at h
        rw [h.1, ← h.2]
        congr 2
        omega

/-- More parentheses within each other may be read. -/
theorem rdL_mono (s : ByteArray) (f g : Nat → Option (Tree × Nat)) (h : ∀ i x, f i = some x → g i = some x) : ∀ n i acc x, rdL s f n i acc = some x → rdL s g n i acc = some x := by
  intro n; induction n with
  | zero => intro i acc x hx; simp [rdL] at hx
  | succ n ih =>
    intro i acc x hx
    rw [rdL] at hx ⊢
    cases hr : f (i + 1) with
    | none => rw [hr] at hx; simp at hx
    | some y =>
      rw [hr] at hx; rw [h _ _ hr]
      simp only at hx ⊢
      split at hx
      · rename_i h1; rw [if_pos h1]
        split at hx
        · rename_i h2; rw [if_pos h2]; exact hx
        · rename_i h2; rw [if_neg h2]
          split at hx
          · rename_i h3; rw [if_pos h3]; exact ih _ _ _ hx
          · simp at hx
      · simp at hx
theorem rd_mono (s : ByteArray) : ∀ k i x, rd s k i = some x → rd s (k + 1) i = some x := by
  intro k; induction k with
  | zero => intro i x h; simp [rd] at h
  | succ k ih =>
    intro i x h
    rw [rd] at h
    rw [rd]
    split at h
    · rename_i h1; rw [if_pos h1]
      split at h
      · rename_i h2; rw [if_pos h2]; exact rdL_mono s _ _ ih _ _ _ _ h
      · rename_i h2; rw [if_neg h2]; exact h
    · simp at h

theorem rdL_node (s : ByteArray) (f : Nat → Option (Tree × Nat)) : ∀ n i acc t e, rdL s f n i acc = some (t, e) → ∃ q qs, t = .node (acc ++ q :: qs) := by
  intro n; induction n with
  | zero => intro i acc t e h; simp [rdL] at h
  | succ n ih =>
    intro i acc t e h
    rw [rdL] at h
    cases hr : f (i + 1) with
    | none => rw [hr] at h; simp at h
    | some y =>
      rw [hr] at h; simp only at h
      split at h
      · split at h
        · simp only [Option.some.injEq, Prod.mk.injEq] at h; exact ⟨y.1, [], h.1.symm⟩
        · split at h
          · obtain ⟨q, qs, ht⟩ := ih _ _ _ _ h
            exact ⟨y.1, q :: qs, by rw [ht]; simp⟩
          · simp at h
      · simp at h

theorem runEnd_u (s : ByteArray) : runEnd (thunkS s) 1 = 2 := by
  have hz := thunkS_size s
  obtain ⟨_, h1, h2⟩ := byteAt_thunk_head s
  rw [runEnd_go (thunkS s) 1 (by omega) (by rw [h1]; decide), runEnd_stop]
  rw [h2]; intro h; exact absurd h.2 (by decide)
theorem extract_u (s : ByteArray) : ((thunkS s).extract 1 2).toList = [117] := by
  rw [Go.ByteArray.toList_eq]
  simp only [ByteArray.data_extract, Array.toList_extract]
  rw [thunkS_data]; rfl

/-- What reads as a thunk has a computation type inside. -/
theorem thunk_ty {s : ByteArray} {ty : Ty} (h : readTy (thunkS s) = some ty) : ∃ c, readTy s = some c ∧ c.isVal = false := by
  have hz := thunkS_size s
  obtain ⟨h0, h1, h2⟩ := byteAt_thunk_head s
  unfold readTy at h
  cases hp : parse (thunkS s) with
  | none => rw [hp] at h; simp at h
  | some T =>
    rw [hp] at h; simp only at h
    split at h
    · rename_i h12
      have hsz : s.size + 4 ≤ 12000 := by
        unfold parse at hp; split at hp
        · omega
        · simp at hp
      have hr : rd (thunkS s) 101 0 = some (T, s.size + 4) := by
        unfold parse at hp; rw [if_pos (by omega)] at hp
        cases hr : rd (thunkS s) 101 0 with
        | none => rw [hr] at hp; simp at hp
        | some x =>
          obtain ⟨t, e⟩ := x
          rw [hr] at hp; simp only at hp
          split at hp
          · rename_i he; simp at hp; rw [hp, he, hz]
          · simp at hp
      rw [rd_paren (by omega) h0, rdL] at hr
      have hu : rd (thunkS s) 100 (0 + 1) = some (.atom ((thunkS s).extract 1 2), 2) := by
        have := rd_some_atom (s := thunkS s) (k := 100) (i := 1) (by omega) (by omega) (by rw [h1]; decide) (by rw [runEnd_u]; decide)
        rw [runEnd_u] at this; exact this
      rw [hu] at hr
      simp only [List.nil_append] at hr
      rw [if_pos (by omega), if_neg (by rw [h2]; decide), if_pos h2, hz, rdL] at hr
      cases hq : rd (thunkS s) 100 (2 + 1) with
      | none => rw [hq] at hr; simp at hr
      | some y =>
        obtain ⟨p, e1⟩ := y
        rw [hq] at hr
        simp only at hr
        split at hr
        · split at hr
          · simp only [Option.some.injEq, Prod.mk.injEq, List.singleton_append] at hr
            obtain ⟨rfl, he⟩ := hr
            have hs := rd_thunk s 100 0 p e1 (by omega) hq (by omega)
            have hs2 := rd_mono s 100 0 _ hs
            have hps : parse s = some p := by
              unfold parse
              rw [if_pos (by omega), hs2]
              simp only
              rw [if_pos (by omega)]
            have hps12 : p.size ≤ 12 := by simp only [Tree.size, Tree.sizes] at h12; omega
            rw [Tree.ty] at h
            simp only [Tree.tys] at h
            cases hpt : p.ty with
            | none => rw [hpt] at h; simp at h
            | some a =>
              rw [hpt] at h; simp only [Tree.text] at h
              rw [extract_u] at h
              refine ⟨a, by rw [readTy, hps]; simp [hps12, hpt], ?_⟩
              unfold tyParts at h
              simp only at h
              split at h
              · rename_i hc; exact hc.2
              · split at h
                · rename_i hc; simp at hc
                · simp at h
          · split at hr
            · exfalso
              obtain ⟨q, qs, rfl⟩ := rdL_node _ _ _ _ _ _ _ hr
              simp only [List.cons_append, List.nil_append] at h
              rw [Tree.ty] at h
              cases hk : Tree.tys (p :: q :: qs) with
              | none => rw [hk] at h; simp at h
              | some ks =>
                rw [hk] at h; simp only [Tree.text] at h
                rw [extract_u] at h
                have hl := tys_length _ _ hk
                match ks, hl, h with
                | [a, b], _, h => simp [tyParts] at h
                | a :: b :: c :: r, _, h => simp [tyParts] at h
            · simp at hr
        · simp at hr
    · simp at h

/-- What TypeThunk tells. -/
def thunkR (s : ByteArray) : Value := match readTy (thunkS s) with
  | some _ => .tuple #[.string (thunkS s), .bool true]
  | none => .tuple #[.string ByteArray.empty, .bool false]

set_option maxHeartbeats 1000000 in
theorem implTypeThunk_any (s : ByteArray) (hs : s.size ≤ 1048576) (w : World) : Calls Tryz.prog 9 #[.string s] w fun e w' => e = .returned (thunkR s) ∧ Below w.heap.size w w' := by
  have hsz := thunkS_size s
  have HC := hid (fun W => readType_any (thunkS s) (by omega) W)
  clear hsz
  cases hr : readTy (thunkS s) with
  | none =>
    have HR := hid hr
    clear hr
    go_enter Tryz.func9, Tryz.ntmps9
    go_wp2_with (go_at_call 15; refine (HC.out _).mono ?_; rintro e w1 hp; rw [HR.out] at hp; obtain ⟨rfl, hb1⟩ := hp.none; clear hp)
    go_ret2
    exact ⟨by rw [thunkR, HR.out]; rfl, hb1⟩
  | some ty =>
    have HR := hid hr
    clear hr
    go_enter Tryz.func9, Tryz.ntmps9
    go_wp2_with (go_at_call 15; refine (HC.out _).mono ?_; rintro e w1 hp; rw [HR.out] at hp; obtain ⟨rfl, hb1⟩ := hp.some; clear hp)
    go_ret2
    exact ⟨by rw [thunkR, HR.out]; rfl, hb1⟩

theorem thunkR_cases (s : ByteArray) : thunkR s = .tuple #[.string (thunkS s), .bool true] ∨ thunkR s = .tuple #[.string ByteArray.empty, .bool false] := by
  unfold thunkR; split
  · exact Or.inl rfl
  · exact Or.inr rfl
end Go.Proofs.YtagifgekhboinaaGreatDoor

namespace Go.Proofs.YtagifgekhboinaaGreatDoor
open Go.RowKit

/-- A text is what its type writes. -/
theorem lw_text {s : ByteArray} {ty : Ty} (h : readTy s = some ty) : s = ty.text := bytes_of_toList (readTy_write h)
/-- What is read of a thunk's text. -/
theorem lw_thunk {s : ByteArray} {u : Ty} (h : readTy (thunkS s) = some u) : ∃ c, readTy s = some c ∧ c.isVal = false ∧ u = .thunk c ∧ s = c.text := by
  obtain ⟨c, hc, hv⟩ := thunk_ty h
  have hs := lw_text hc
  have hu := readTy_write h
  have hg := lw_good h
  rw [Go.ByteArray.toList_eq, thunkS_data, hs, lw_data] at hu
  refine ⟨c, hc, hv, ?_, hs⟩
  cases u with
  | bit => simp [Ty.write] at hu
  | pair a b => simp [Ty.write] at hu
  | ret a => simp [Ty.write] at hu
  | fn a b => simp [Ty.write] at hu
  | choice a b => simp [Ty.write] at hu
  | thunk d =>
    simp [Ty.write] at hu
    simp only [Ty.wf, Bool.and_eq_true] at hg
    have h1 : readTy d.text = some d := lw_read hg.1.1 (by have := hg.2; rw [Ty.atoms] at this; omega)
    have h2 : d.text = s := by rw [hs, Ty.text, Ty.text, hu]
    rw [h2, hc] at h1
    simp at h1
    rw [h1]
theorem lw_thunkR (s : ByteArray) : (∃ c, readTy s = some c ∧ c.isVal = false ∧ readTy (thunkS s) = some (.thunk c) ∧ s = c.text ∧ thunkR s = .tuple #[.string (thunkS s), .bool true]) ∨ thunkR s = .tuple #[.string ByteArray.empty, .bool false] := by
  cases ht : readTy (thunkS s) with
  | none => right; rw [thunkR, ht]
  | some u =>
    obtain ⟨c, h1, h2, rfl, h4⟩ := lw_thunk ht
    left; exact ⟨c, h1, h2, rfl, h4, by rw [thunkR, ht]⟩
end Go.Proofs.YtagifgekhboinaaGreatDoor
