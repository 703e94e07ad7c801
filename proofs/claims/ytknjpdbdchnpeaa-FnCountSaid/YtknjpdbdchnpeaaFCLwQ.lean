/- More pure facts for the laws of chapter 1: thunks, counts, plain types, texts. -/
import Derived.Test.YtknjpdbdchnpeaaFM7
import Derived.Test.YtknjpdbdchnpeaaFCThkI
import Derived.Test.YtknjpdbdchnpeaaFMSCountA
import Derived.Test.YtknjpdbdchnpeaaFCPlainI
namespace Go.Proofs.Ytknjpdbdchnpeaa
open Go.RowKit

/-- A list of one text that is made. -/
theorem lw_lit (w : World) (s : ByteArray) (t : TypeId) : Vals (w.alloc (.cells #[.string s] t)) (some ⟨w.heap.size, 0, none⟩) ([s].map Value.string) := fun i v hi => by
  refine ⟨w.heap.size, 0, rfl, ?_⟩
  have h := heap_alloc_new w (.cells #[Value.string s] t)
  unfold World.cell?
  rw [show (⟨w.heap.size, 0 + i, none⟩ : Addr).block = w.heap.size from rfl, h]
  match i, hi with
  | 0, hi => simp at hi; subst hi; rfl
/-- What is read of a thunk's text. -/
theorem lw_thunk {s : ByteArray} {u : Ty} (h : readTy (thunkS s) = some u) : ∃ c, readTy s = some c ∧ c.isVal = false ∧ u = .thunk c ∧ s = c.text := by
  obtain ⟨c, hc, hv⟩ := thunk_ty h
  have hs := lw_text hc
  have hu := readTy_write h
  have hg := lw_good h
  rw [Go.ByteArray.toList_eq, thunkS_data, hs, lw_data] at hu
  refine ⟨c, hc, hv, ?_, hs⟩
  cases u with
  | bit => simp [Ty.write] at hu
  | pair a b => simp [Ty.write] at hu
  | ret a => simp [Ty.write] at hu
  | fn a b => simp [Ty.write] at hu
  | choice a b => simp [Ty.write] at hu
  | thunk d =>
    simp [Ty.write] at hu
    simp only [Ty.wf, Bool.and_eq_true] at hg
    have h1 : readTy d.text = some d := lw_read hg.1.1 (by have := hg.2; rw [Ty.atoms] at this; omega)
    have h2 : d.text = s := by rw [hs, Ty.text, Ty.text, hu]
    rw [h2, hc] at h1
    simp at h1
    rw [h1]
theorem lw_thunkR (s : ByteArray) : (∃ c, readTy s = some c ∧ c.isVal = false ∧ readTy (thunkS s) = some (.thunk c) ∧ s = c.text ∧ thunkR s = .tuple #[.string (thunkS s), .bool true]) ∨ thunkR s = .tuple #[.string ByteArray.empty, .bool false] := by
  cases ht : readTy (thunkS s) with
  | none => right; rw [thunkR, ht]
  | some u =>
    obtain ⟨c, h1, h2, rfl, h4⟩ := lw_thunk ht
    left; exact ⟨c, h1, h2, rfl, h4, by rw [thunkR, ht]⟩
/-- What is counted has counted parts. -/
theorem lw_cnt {ty : Ty} {n : Nat} (h : ty.cnt = some n) {i : Nat} {k : Ty} (hk : ty.kids[i]? = some k) : ∃ m : Nat, k.cnt = some m ∧ 2 ≤ m ∧ m ≤ 5000 := by
  have key : ∃ m, k.cnt = some m := by
    cases ty with
    | bit => simp [Ty.kids] at hk
    | thunk c =>
      have := List.mem_of_getElem? hk
      simp [Ty.kids] at this; subst this
      rw [Ty.cnt] at h; exact ⟨_, h⟩
    | ret a =>
      have := List.mem_of_getElem? hk
      simp [Ty.kids] at this; subst this
      rw [Ty.cnt] at h
      cases ha : k.cnt with
      | none => rw [ha] at h; simp at h
      | some x => exact ⟨x, rfl⟩
    | pair a b =>
      have := List.mem_of_getElem? hk
      rw [Ty.cnt] at h
      cases ha : a.cnt with
      | none => rw [ha] at h; simp at h
      | some x =>
        cases hb : b.cnt with
        | none => rw [ha, hb] at h; simp at h
        | some y =>
          simp [Ty.kids] at this
          rcases this with rfl | rfl
          · exact ⟨x, ha⟩
          · exact ⟨y, hb⟩
    | fn a b =>
      have := List.mem_of_getElem? hk
      rw [Ty.cnt] at h
      cases ha : a.cnt with
      | none => rw [ha] at h; simp at h
      | some x =>
        cases hb : b.cnt with
        | none => rw [ha, hb] at h; simp at h
        | some y =>
          simp [Ty.kids] at this
          rcases this with rfl | rfl
          · exact ⟨x, ha⟩
          · exact ⟨y, hb⟩
    | choice a b =>
      have := List.mem_of_getElem? hk
      rw [Ty.cnt] at h
      cases ha : a.cnt with
      | none => rw [ha] at h; simp at h
      | some x =>
        cases hb : b.cnt with
        | none => rw [ha, hb] at h; simp at h
        | some y =>
          simp [Ty.kids] at this
          rcases this with rfl | rfl
          · exact ⟨x, ha⟩
          · exact ⟨y, hb⟩
  obtain ⟨m, hm⟩ := key
  exact ⟨m, hm, cnt_range k m hm⟩
theorem cntO_lo (o : Option Ty) : cntO o = -1 ∨ ∃ ty N, o = some ty ∧ ty.cnt = some N ∧ cntO o = ((N : Nat) : Int) ∧ 2 ≤ N ∧ N ≤ 5000 := by
  cases o with
  | none => left; rfl
  | some ty =>
    cases hN : ty.cnt with
    | none => left; show cntV ty.cnt = -1; rw [hN]; rfl
    | some N => right; exact ⟨ty, N, rfl, hN, by show cntV ty.cnt = _; rw [hN]; rfl, cnt_range ty N hN⟩
/-- The parts of a plain type are plain. -/
theorem lw_plain_kid {ty : Ty} (h : ty.plain = true) {i : Nat} {k : Ty} (hk : ty.kids[i]? = some k) : k.plain = true := by
  have hm := List.mem_of_getElem? hk
  cases ty with
  | bit => simp [Ty.kids] at hm
  | pair a b =>
    simp [Ty.plain] at h
    simp [Ty.kids] at hm
    rcases hm with rfl | rfl
    · exact h.1
    · exact h.2
  | ret a =>
    simp [Ty.plain] at h
    simp [Ty.kids] at hm
    subst hm; exact h
  | thunk c => simp [Ty.plain] at h
  | fn a b => simp [Ty.plain] at h
  | choice a b => simp [Ty.plain] at h
theorem lw_even {n : Nat} : ∀ {ty : Ty}, ty.wf = true → ty.plain = true → ty.cnt = some n → ((n % 2 = 0) ↔ ty.isVal = true) := by
  intro ty
  induction ty generalizing n with
  | bit => intro _ _ h; rw [Ty.cnt] at h; simp at h; subst h; simp [Ty.isVal]
  | pair a b iha ihb =>
    intro hw hp h
    simp only [Ty.wf, Bool.and_eq_true] at hw
    simp [Ty.plain] at hp
    rw [Ty.cnt] at h
    cases ha : a.cnt with
    | none => rw [ha] at h; simp at h
    | some x =>
      cases hb : b.cnt with
      | none => rw [ha, hb] at h; simp at h
      | some y =>
        rw [ha, hb] at h
        have hc := (capped_some h).1
        have hx := (iha hw.1.1.1 hp.1 ha).2 hw.1.2
        simp only [Ty.isVal, iff_true]
        rw [hc, Nat.mul_mod, hx, Nat.zero_mul, Nat.zero_mod]
  | ret a ih =>
    intro hw hp h
    rw [Ty.cnt] at h
    cases ha : a.cnt with
    | none => rw [ha] at h; simp at h
    | some x =>
      rw [ha] at h
      have hc := (capped_some h).1
      have h1 : (2 * x + 1) % 2 = 1 := by omega
      simp only [Ty.isVal]
      rw [hc, Nat.mul_mod, h1]
      simp
  | thunk c => intro _ hp; simp [Ty.plain] at hp
  | fn a b => intro _ hp; simp [Ty.plain] at hp
  | choice a b => intro _ hp; simp [Ty.plain] at hp
/-- What heads and kinds of plain types tell. -/
theorem lw_plain_kinds {ty : Ty} (h : ty.plain = true) :
    (((⟨#[ty.headB]⟩ : ByteArray).toList == [98]) = true ∧ ((⟨#[ty.headB]⟩ : ByteArray).toList == [42]) = false ∧ ((⟨#[ty.headB]⟩ : ByteArray).toList == [102]) = false ∧ (ty.kindS.toList == [118, 97, 108, 117, 101]) = true ∧ ty.isVal = true) ∨
    (((⟨#[ty.headB]⟩ : ByteArray).toList == [98]) = false ∧ ((⟨#[ty.headB]⟩ : ByteArray).toList == [42]) = true ∧ ((⟨#[ty.headB]⟩ : ByteArray).toList == [102]) = false ∧ (ty.kindS.toList == [118, 97, 108, 117, 101]) = true ∧ ty.isVal = true) ∨
    (((⟨#[ty.headB]⟩ : ByteArray).toList == [98]) = false ∧ ((⟨#[ty.headB]⟩ : ByteArray).toList == [42]) = false ∧ ((⟨#[ty.headB]⟩ : ByteArray).toList == [102]) = true ∧ (ty.kindS.toList == [118, 97, 108, 117, 101]) = false ∧ ty.isVal = false) := by
  rw [kindS_toList, Go.ByteArray.toList_eq]
  cases ty with
  | bit => left; exact ⟨rfl, rfl, rfl, rfl, rfl⟩
  | pair a b => right; left; exact ⟨rfl, rfl, rfl, rfl, rfl⟩
  | ret a => right; right; exact ⟨rfl, rfl, rfl, rfl, rfl⟩
  | thunk c => simp [Ty.plain] at h
  | fn a c => simp [Ty.plain] at h
  | choice a c => simp [Ty.plain] at h
/-- Heads, and how many parts there are. -/
theorem lw_heads (ty : Ty) :
    (((⟨#[ty.headB]⟩ : ByteArray).toList == [98]) = true ∧ ((⟨#[ty.headB]⟩ : ByteArray).toList == [117]) = false ∧ ((⟨#[ty.headB]⟩ : ByteArray).toList == [102]) = false ∧ ty.kids.length = 0) ∨
    (((⟨#[ty.headB]⟩ : ByteArray).toList == [98]) = false ∧ ((⟨#[ty.headB]⟩ : ByteArray).toList == [117]) = true ∧ ((⟨#[ty.headB]⟩ : ByteArray).toList == [102]) = false ∧ ty.kids.length = 1) ∨
    (((⟨#[ty.headB]⟩ : ByteArray).toList == [98]) = false ∧ ((⟨#[ty.headB]⟩ : ByteArray).toList == [117]) = false ∧ ((⟨#[ty.headB]⟩ : ByteArray).toList == [102]) = true ∧ ty.kids.length = 1) ∨
    (((⟨#[ty.headB]⟩ : ByteArray).toList == [98]) = false ∧ ((⟨#[ty.headB]⟩ : ByteArray).toList == [117]) = false ∧ ((⟨#[ty.headB]⟩ : ByteArray).toList == [102]) = false ∧ ty.kids.length = 2) := by
  rw [Go.ByteArray.toList_eq]
  cases ty with
  | bit => left; exact ⟨rfl, rfl, rfl, rfl⟩
  | thunk c => right; left; exact ⟨rfl, rfl, rfl, rfl⟩
  | ret a => right; right; left; exact ⟨rfl, rfl, rfl, rfl⟩
  | pair a b => right; right; right; exact ⟨rfl, rfl, rfl, rfl⟩
  | fn a c => right; right; right; exact ⟨rfl, rfl, rfl, rfl⟩
  | choice a c => right; right; right; exact ⟨rfl, rfl, rfl, rfl⟩
theorem lw_head_some (ty : Ty) : (⟨#[ty.headB]⟩ : ByteArray).toList.isEmpty = false := by rw [Go.ByteArray.toList_eq]; rfl
/-- A head and parts behind it, as they are put together. -/
def txL (x : ByteArray) : List ByteArray → ByteArray
  | [] => x
  | k :: ks => txL ((x ++ ⟨#[32]⟩) ++ k) ks
theorem txL_snoc (x k : ByteArray) : ∀ l : List ByteArray, txL x (l ++ [k]) = (txL x l ++ ⟨#[32]⟩) ++ k := by
  intro l; induction l generalizing x with
  | nil => rfl
  | cons a l ih => exact ih _
theorem txL_data (x : ByteArray) : ∀ l : List ByteArray, (txL x l).data.toList = x.data.toList ++ l.flatMap fun k => 32 :: k.data.toList := by
  intro l; induction l generalizing x with
  | nil => simp [txL]
  | cons a l ih => rw [txL, ih]; simp
theorem txL_size (x : ByteArray) : ∀ l : List ByteArray, (∀ k ∈ l, k.size ≤ 60) → (txL x l).size ≤ x.size + 61 * l.length := by
  intro l; induction l generalizing x with
  | nil => intro _; simp [txL]
  | cons a l ih =>
    intro h
    have h1 := ih ((x ++ (⟨#[32]⟩ : ByteArray)) ++ a) (fun k hk => h k (List.mem_cons_of_mem _ hk))
    have h2 := h a (List.mem_cons_self ..)
    have h3 : (((x ++ (⟨#[32]⟩ : ByteArray)) ++ a)).size = x.size + 1 + a.size := by rw [ByteArray.size_append, ByteArray.size_append]; rfl
    rw [txL, List.length_cons]
    omega
theorem lw_whole {s : ByteArray} {ty : Ty} (h : readTy s = some ty) : (s.toList == [98]) = true ∨ ((s.toList == [98]) = false ∧ ((txL ((⟨#[40]⟩ : ByteArray) ++ ⟨#[ty.headB]⟩) (ty.kids.map Ty.text) ++ (⟨#[41]⟩ : ByteArray)).toList == s.toList) = true) := by
  rw [readTy_write h]
  have key : ∀ l : List Ty, (txL ((⟨#[40]⟩ : ByteArray) ++ ⟨#[ty.headB]⟩) (l.map Ty.text) ++ (⟨#[41]⟩ : ByteArray)).toList = 40 :: ty.headB :: ((l.flatMap fun k => 32 :: k.write) ++ [41]) := by
    intro l
    rw [Go.ByteArray.toList_eq, ByteArray.data_append, Array.toList_append, txL_data, List.flatMap_map]
    simp [lw_data]
  rw [key]
  cases ty with
  | bit => left; rfl
  | pair a b => right; exact ⟨by simp [Ty.write], by simp [Ty.kids, Ty.write, Ty.headB]⟩
  | thunk c => right; exact ⟨by simp [Ty.write], by simp [Ty.kids, Ty.write, Ty.headB]⟩
  | ret a => right; exact ⟨by simp [Ty.write], by simp [Ty.kids, Ty.write, Ty.headB]⟩
  | fn a c => right; exact ⟨by simp [Ty.write], by simp [Ty.kids, Ty.write, Ty.headB]⟩
  | choice a c => right; exact ⟨by simp [Ty.write], by simp [Ty.kids, Ty.write, Ty.headB]⟩
end Go.Proofs.Ytknjpdbdchnpeaa
