/- The law of TypeHead, walked. -/
import Derived.Test.YtamdinbjfbbicabLawA
namespace Go.Proofs.Ytamdinbjfbbicab
open Go.RowKit


/-- The text of the head of a type. -/
def headOf : Option Ty → ByteArray
  | some t => ⟨#[t.headB]⟩
  | none => ByteArray.empty
theorem ty_head : ∀ (t : Tree) (ty : Ty), t.ty = some ty → (match t with | .atom s => s | .node [] => ByteArray.empty | .node (q :: _) => q.text) = ⟨#[ty.headB]⟩
  | .atom s, ty, h => by
    rw [Tree.ty] at h
    split at h
    · rename_i hs; simp at h; subst h; exact bytes_of_toList hs
    · simp at h
  | .node [], ty, h => by simp [Tree.ty] at h
  | .node (q :: qs), ty, h => by
    rw [Tree.ty] at h
    cases hk : Tree.tys qs with
    | none => rw [hk] at h; simp at h
    | some ks =>
      rw [hk] at h; simp only at h
      show q.text = _
      have : ∀ (L : List UInt8), tyParts L ks = some ty → L = [ty.headB] := by
        intro L hL
        unfold tyParts at hL
        split at hL
        · split at hL
          · rename_i c; simp at hL; subst hL; exact c.1
          · split at hL
            · rename_i c; simp at hL; subst hL; exact c.1
            · split at hL
              · rename_i c; simp at hL; subst hL; exact c.1
              · simp at hL
        · split at hL
          · rename_i c; simp at hL; subst hL; exact c.1
          · split at hL
            · rename_i c; simp at hL; subst hL; exact c.1
            · simp at hL
        · simp at hL
      exact bytes_of_toList (this _ h)

set_option maxHeartbeats 1000000 in
theorem specTypeHead_any (s : ByteArray) (hs : s.size ≤ 2000000) (w : World) : Calls Try.prog 11 #[.string s] w fun e w' => e = .returned (.string (headOf (readTy s))) ∧ Below w.heap.size w w' := by
  have HC := hid (fun W => l1Type_any s hs W)
  cases ht : typeTree s with
  | none =>
    have HR := hid (typeTree_none ht)
    have HT := hid ht
    clear ht
    go_enter Try.func11, Try.ntmps11
    go_wp2_with (go_at_call 24; refine (HC.out _).mono ?_; rintro e w1 hp; rw [HT.out] at hp; obtain ⟨pa, pp, pl, pc, rfl, hpl, hb1⟩ := hp.none; clear hp)
    go_ret
    exact ⟨ret_str (by rw [HR.out]; rfl), hb1.alloc hb1.size _⟩
  | some t =>
    obtain ⟨hpt, hsz, ty, hty, hrt, hk⟩ := typeTree_some ht
    have HR := hid hrt
    have HH := hid (ty_head t ty hty)
    have HT := hid ht
    clear ht hpt hty hrt hk
    cases t with
    | atom x =>
      go_enter Try.func11, Try.ntmps11
      go_wp2_with (go_at_call 24; refine (HC.out _).mono ?_; rintro e w1 hp; rw [HT.out] at hp; obtain ⟨pa, pp, pl, pc, rfl, hb1, htr⟩ := hp.some; clear hp; obtain ⟨rfl, rfl, rfl, rfl, hx⟩ := htr.atom_inv; clear htr; have he := isEmpty_not _ hx)
      go_ret
      exact ⟨ret_str (by rw [HR.out]; exact HH.out), hb1.alloc hb1.size _⟩
    | node ps =>
      go_enter Try.func11, Try.ntmps11
      go_wp2_with (go_at_call 24; refine (HC.out _).mono ?_; rintro e w1 hp; rw [HT.out] at hp; obtain ⟨pa, pp, pl, pc, rfl, hb1, htr⟩ := hp.some; clear hp; obtain ⟨b, A, rfl, rfl, rfl, hlc, hcm, h0, hA, hB, hps⟩ := htr.node_inv; clear htr; have c0 := hA 0 h0; rw [Nat.zero_mul] at c0; have c1 := fun o => (World.cell?_of_block (w := w1) (a := ⟨b, 0, none⟩) (heap_alloc_old w1 o (World.block_lt_of_cell? w1 _ c0))).trans c0; have HPS := hid hps; clear hA hB hps c0)
      go_ret
      refine ⟨ret_str ?_, hb1.alloc hb1.size _⟩
      rw [HR.out]
      cases ps with
      | nil => simp at h0
      | cons q qs => exact ((HPS.out 0 q rfl).text).trans HH.out

set_option maxHeartbeats 1000000 in
theorem implTypeHead_any (s : ByteArray) (hs : s.size ≤ 2000000) (w : World) : Calls Try.prog 12 #[.string s] w fun e w' => e = .returned (.string (headOf (readTy s))) ∧ Below w.heap.size w w' := by
  have HC := hid (fun W => readType_any s hs W)
  cases hr : readTy s with
  | none =>
    have HR := hid hr
    clear hr
    go_enter Try.func12, Try.ntmps12
    go_wp2_with (go_at_call 26; refine (HC.out _).mono ?_; rintro e w1 hp; rw [HR.out] at hp; obtain ⟨rfl, hb1⟩ := hp.none; clear hp)
    go_ret
    exact ⟨rfl, hb1⟩
  | some ty =>
    cases ty with
    | bit =>
      have mk := m_head_bit 
      have HR := hid hr
      clear hr
      go_enter Try.func12, Try.ntmps12
      go_wp2_with (first | (go_at_call 26; refine (HC.out _).mono ?_; rintro e w1 hp; rw [HR.out] at hp; obtain ⟨he1, hb1⟩ := hp.some; simp only [Ty.val] at he1; subst he1; clear hp) | (go_at_call 86; refine (head_bit _).mono ?_; rintro e w2 ⟨rfl, hb2⟩))
      go_ret
      exact ⟨rfl, hb1.trans (hb2.mono hb1.size)⟩
    | pair x y =>
      have mk := m_head_pair x.val y.val
      have HR := hid hr
      clear hr
      go_enter Try.func12, Try.ntmps12
      go_wp2_with (first | (go_at_call 26; refine (HC.out _).mono ?_; rintro e w1 hp; rw [HR.out] at hp; obtain ⟨he1, hb1⟩ := hp.some; simp only [Ty.val] at he1; subst he1; clear hp) | (go_at_call 91; refine (head_pair _ _ _).mono ?_; rintro e w2 ⟨rfl, hb2⟩))
      go_ret
      exact ⟨rfl, hb1.trans (hb2.mono hb1.size)⟩
    | thunk x =>
      have mk := m_head_thunk x.val
      have HR := hid hr
      clear hr
      go_enter Try.func12, Try.ntmps12
      go_wp2_with (first | (go_at_call 26; refine (HC.out _).mono ?_; rintro e w1 hp; rw [HR.out] at hp; obtain ⟨he1, hb1⟩ := hp.some; simp only [Ty.val] at he1; subst he1; clear hp) | (go_at_call 95; refine (head_thunk _ _).mono ?_; rintro e w2 ⟨rfl, hb2⟩))
      go_ret
      exact ⟨rfl, hb1.trans (hb2.mono hb1.size)⟩
    | ret x =>
      have mk := m_head_ret x.val
      have HR := hid hr
      clear hr
      go_enter Try.func12, Try.ntmps12
      go_wp2_with (first | (go_at_call 26; refine (HC.out _).mono ?_; rintro e w1 hp; rw [HR.out] at hp; obtain ⟨he1, hb1⟩ := hp.some; simp only [Ty.val] at he1; subst he1; clear hp) | (go_at_call 99; refine (head_ret _ _).mono ?_; rintro e w2 ⟨rfl, hb2⟩))
      go_ret
      exact ⟨rfl, hb1.trans (hb2.mono hb1.size)⟩
    | fn x y =>
      have mk := m_head_fn x.val y.val
      have HR := hid hr
      clear hr
      go_enter Try.func12, Try.ntmps12
      go_wp2_with (first | (go_at_call 26; refine (HC.out _).mono ?_; rintro e w1 hp; rw [HR.out] at hp; obtain ⟨he1, hb1⟩ := hp.some; simp only [Ty.val] at he1; subst he1; clear hp) | (go_at_call 104; refine (head_fn _ _ _).mono ?_; rintro e w2 ⟨rfl, hb2⟩))
      go_ret
      exact ⟨rfl, hb1.trans (hb2.mono hb1.size)⟩
    | choice x y =>
      have mk := m_head_choice x.val y.val
      have HR := hid hr
      clear hr
      go_enter Try.func12, Try.ntmps12
      go_wp2_with (first | (go_at_call 26; refine (HC.out _).mono ?_; rintro e w1 hp; rw [HR.out] at hp; obtain ⟨he1, hb1⟩ := hp.some; simp only [Ty.val] at he1; subst he1; clear hp) | (go_at_call 109; refine (head_choice _ _ _).mono ?_; rintro e w2 ⟨rfl, hb2⟩))
      go_ret
      exact ⟨rfl, hb1.trans (hb2.mono hb1.size)⟩

set_option maxHeartbeats 1000000 in
theorem lawTypeHead (s : ByteArray) (hs : s.size ≤ 9223372036854775807) (w : World) : Calls Try.prog 4 #[.string s] w fun e w' => e = .returned (.bool true) ∧ Below w.heap.size w w' := by
  by_cases h : s.size ≤ 1048576
  · have HA := hid (fun W => specTypeHead_any s (by omega) W)
    have HB := hid (fun W => implTypeHead_any s (by omega) W)
    have hq : (!(headOf (readTy s)).toList == (headOf (readTy s)).toList) = false := by simp
    go_enter Try.func4, Try.ntmps4
    go_wp2_with (first | (go_at_call 11; refine (HA.out _).mono ?_; rintro e w1 ⟨rfl, hb1⟩) | (go_at_call 12; refine (HB.out _).mono ?_; rintro e w2 ⟨rfl, hb2⟩))
    go_ret
    exact ⟨rfl, hb1.trans (hb2.mono hb1.size)⟩
  · have h2 : 1048576 < s.size := by omega
    clear h
    go_enter Try.func4, Try.ntmps4
    go_wp2
    go_ret
    exact ⟨rfl, Below.refl _ _⟩
end Go.Proofs.Ytamdinbjfbbicab
