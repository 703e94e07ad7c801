/- TypeHead by the model. -/
import Derived.Test.YtknjpdbdchnpeaaTyR
namespace Go.Proofs.Ytknjpdbdchnpeaa
open Go.RowKit

/-- The text of the head of a type. -/
def headOf : Option Ty → ByteArray
  | some t => ⟨#[t.headB]⟩
  | none => ByteArray.empty
theorem ty_head : ∀ (t : Tree) (ty : Ty), t.ty = some ty → (match t with | .atom s => s | .node [] => ByteArray.empty | .node (q :: _) => q.text) = ⟨#[ty.headB]⟩
  | .atom s, ty, h => by
    rw [Tree.ty] at h
    split at h
    · rename_i hs; simp at h; subst h; exact bytes_of_toList hs
    · simp at h
  | .node [], ty, h => by simp [Tree.ty] at h
  | .node (q :: qs), ty, h => by
    rw [Tree.ty] at h
    cases hk : Tree.tys qs with
    | none => rw [hk] at h; simp at h
    | some ks =>
      rw [hk] at h; simp only at h
      show q.text = _
      have : ∀ (L : List UInt8), tyParts L ks = some ty → L = [ty.headB] := by
        intro L hL
        unfold tyParts at hL
        split at hL
        · split at hL
          · rename_i c; simp at hL; subst hL; exact c.1
          · split at hL
            · rename_i c; simp at hL; subst hL; exact c.1
            · split at hL
              · rename_i c; simp at hL; subst hL; exact c.1
              · simp at hL
        · split at hL
          · rename_i c; simp at hL; subst hL; exact c.1
          · split at hL
            · rename_i c; simp at hL; subst hL; exact c.1
            · simp at hL
        · simp at hL
      exact bytes_of_toList (this _ h)

set_option maxHeartbeats 1000000 in
theorem specTypeHead_any (s : ByteArray) (hs : s.size ≤ 400000000) (w : World) : Calls Try.prog 19 #[.string s] w fun e w' => e = .returned (.string (headOf (readTy s))) ∧ Below w.heap.size w w' := by
  have HC := hid (fun W => l1Type_any s hs W)
  cases ht : typeTree s with
  | none =>
    have HR := hid (typeTree_none ht)
    have HT := hid ht
    clear ht
    go_enter Try.func19, Try.ntmps19
    go_wp2_with (go_at_call 44; refine (HC.out _).mono ?_; rintro e w1 hp; rw [HT.out] at hp; obtain ⟨pa, pp, pl, pc, rfl, hpl, hb1⟩ := hp.none; clear hp)
    go_ret
    exact ⟨ret_str (by rw [HR.out]; rfl), hb1.alloc hb1.size _⟩
  | some t =>
    obtain ⟨hpt, hsz, ty, hty, hrt, hk⟩ := typeTree_some ht
    have HR := hid hrt
    have HH := hid (ty_head t ty hty)
    have HT := hid ht
    clear ht hpt hty hrt hk
    cases t with
    | atom x =>
      go_enter Try.func19, Try.ntmps19
      go_wp2_with (go_at_call 44; refine (HC.out _).mono ?_; rintro e w1 hp; rw [HT.out] at hp; obtain ⟨pa, pp, pl, pc, rfl, hb1, htr⟩ := hp.some; clear hp; obtain ⟨rfl, rfl, rfl, rfl, hx⟩ := htr.atom_inv; clear htr; have he := isEmpty_not _ hx)
      go_ret
      exact ⟨ret_str (by rw [HR.out]; exact HH.out), hb1.alloc hb1.size _⟩
    | node ps =>
      go_enter Try.func19, Try.ntmps19
      go_wp2_with (go_at_call 44; refine (HC.out _).mono ?_; rintro e w1 hp; rw [HT.out] at hp; obtain ⟨pa, pp, pl, pc, rfl, hb1, htr⟩ := hp.some; clear hp; obtain ⟨b, A, rfl, rfl, rfl, hlc, hcm, h0, hA, hB, hps⟩ := htr.node_inv; clear htr; have c0 := hA 0 h0; rw [Nat.zero_mul] at c0; have c1 := fun o => (World.cell?_of_block (w := w1) (a := ⟨b, 0, none⟩) (heap_alloc_old w1 o (World.block_lt_of_cell? w1 _ c0))).trans c0; have HPS := hid hps; clear hA hB hps c0)
      go_ret
      refine ⟨ret_str ?_, hb1.alloc hb1.size _⟩
      rw [HR.out]
      cases ps with
      | nil => simp at h0
      | cons q qs => exact ((HPS.out 0 q rfl).text).trans HH.out
end Go.Proofs.Ytknjpdbdchnpeaa
