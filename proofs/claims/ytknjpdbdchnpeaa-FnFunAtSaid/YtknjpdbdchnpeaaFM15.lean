/- Merged: CountE, CountS, CountF. -/
import Derived.Test.YtknjpdbdchnpeaaFMSCountD
namespace Go.Proofs.Ytknjpdbdchnpeaa
open Go.RowKit Go.Maps

theorem CPost.up {b n k k' : Nat} {v : Int} {w w' : World} {e : Ending} (h : CPost b n k v w e w') (hk : k ≤ k') : CPost b n k' v w e w' :=
  let ⟨h1, h2, n', D', h3, h4, h5⟩ := h
  ⟨h1, h2, n', D', by omega, h4, h5⟩
/-- THE PROGRAM's COUNT OF A TYPE, over any map of counts that is right. -/
theorem count_any : ∀ (t : Ty), t.write.length ≤ 12000 → ∀ (w : World) (b n : Nat) (D : DataW Unit), w.ownsMap Try.prog 9 (plainElem Try.prog 3) b n D → Good D → n + t.write.length ≤ 1000000 →
    Calls Try.prog 50 #[.map (some b), t.val] w (CPost b n t.write.length (cntV t.cnt) w)
  | .bit, hs, w, b, n, D, ho, hg, hn => of_go .bit hs w b n D ho hg hn (by simp [Ty.write]) (fun W n D ho hg _ => (compute_bit W b n 0 (ofParts_bit W b n D ho hg)).mono fun _ _ h => h.up (Nat.zero_le _))
  | .pair x y, hs, w, b, n, D, ho, hg, hn => of_go (.pair x y) hs w b n D ho hg hn (by simp [Ty.write]) (fun W n D ho hg hn2 => (compute_pair x y W b n _ (ofParts_pair x y W b n D ho hg (by simp [lenL, Ty.write] at hn2 ⊢; omega) (by intro i t ht; match i, ht with | 0, ht => simp at ht; subst ht; exact fun W n D o g hn => count_any x (by simp [Ty.write] at hs; omega) W b n D o g hn | 1, ht => simp at ht; subst ht; exact fun W n D o g hn => count_any y (by simp [Ty.write] at hs; omega) W b n D o g hn))).mono fun _ _ h => h.up (by simp [lenL, Ty.write] <;> omega))
  | .thunk x, hs, w, b, n, D, ho, hg, hn => of_go (.thunk x) hs w b n D ho hg hn (by simp [Ty.write]) (fun W n D ho hg hn2 => (compute_thunk x W b n _ (ofParts_thunk x W b n D ho hg (by simp [lenL, Ty.write] at hn2 ⊢; omega) (by intro i t ht; match i, ht with | 0, ht => simp at ht; subst ht; exact fun W n D o g hn => count_any x (by simp [Ty.write] at hs; omega) W b n D o g hn))).mono fun _ _ h => h.up (by simp [lenL, Ty.write] <;> omega))
  | .ret x, hs, w, b, n, D, ho, hg, hn => of_go (.ret x) hs w b n D ho hg hn (by simp [Ty.write]) (fun W n D ho hg hn2 => (compute_ret x W b n _ (ofParts_ret x W b n D ho hg (by simp [lenL, Ty.write] at hn2 ⊢; omega) (by intro i t ht; match i, ht with | 0, ht => simp at ht; subst ht; exact fun W n D o g hn => count_any x (by simp [Ty.write] at hs; omega) W b n D o g hn))).mono fun _ _ h => h.up (by simp [lenL, Ty.write] <;> omega))
  | .fn x y, hs, w, b, n, D, ho, hg, hn => of_go (.fn x y) hs w b n D ho hg hn (by simp [Ty.write]) (fun W n D ho hg hn2 => (compute_fn x y W b n _ (ofParts_fn x y W b n D ho hg (by simp [lenL, Ty.write] at hn2 ⊢; omega) (by intro i t ht; match i, ht with | 0, ht => simp at ht; subst ht; exact fun W n D o g hn => count_any x (by simp [Ty.write] at hs; omega) W b n D o g hn | 1, ht => simp at ht; subst ht; exact fun W n D o g hn => count_any y (by simp [Ty.write] at hs; omega) W b n D o g hn))).mono fun _ _ h => h.up (by simp [lenL, Ty.write] <;> omega))
  | .choice x y, hs, w, b, n, D, ho, hg, hn => of_go (.choice x y) hs w b n D ho hg hn (by simp [Ty.write]) (fun W n D ho hg hn2 => (compute_choice x y W b n _ (ofParts_choice x y W b n D ho hg (by simp [lenL, Ty.write] at hn2 ⊢; omega) (by intro i t ht; match i, ht with | 0, ht => simp at ht; subst ht; exact fun W n D o g hn => count_any x (by simp [Ty.write] at hs; omega) W b n D o g hn | 1, ht => simp at ht; subst ht; exact fun W n D o g hn => count_any y (by simp [Ty.write] at hs; omega) W b n D o g hn))).mono fun _ _ h => h.up (by simp [lenL, Ty.write] <;> omega))
theorem grown_below {w w1 w2 : World} {o : Obj} (hb : Below w.heap.size w w1) (hg : (w1.alloc o).grownBy w2 (some w1.heap.size)) : Below w.heap.size w w2 := by
  have hz := hb.size
  have h1 := hb.alloc hz o
  exact ⟨hg.os.trans h1.os, hg.tape.trans h1.tape, hg.output.trans h1.output, Nat.le_trans h1.size hg.size, fun k hk => (hg.block k (Nat.lt_of_lt_of_le hk h1.size) (by intro e; simp at e; omega)).trans (h1.block k hk)⟩
end Go.Proofs.Ytknjpdbdchnpeaa

namespace Go.Proofs.Ytknjpdbdchnpeaa
open Go.RowKit Go.Maps

set_option maxRecDepth 100000 in
set_option maxHeartbeats 1000000 in
theorem specTypeCount_any (s : ByteArray) (hs : s.size ≤ 400000000) (w : World) : Calls Try.prog 28 #[.string s] w fun e w' => e = .returned (.int .i64 (cntO (readTy s))) ∧ Below w.heap.size w w' := by
  have HC := hid (fun W => l1Type_any s hs W)
  cases ht : typeTree s with
  | none =>
    have HR := hid (typeTree_none ht)
    have HT := hid ht
    clear ht
    go_enter Try.func28, Try.ntmps28
    go_wp2_with (go_at_call 44; refine (HC.out _).mono ?_; rintro e w1 hp; rw [HT.out] at hp; obtain ⟨pa, pp, pl, pc, rfl, hpl, hb1⟩ := hp.none; clear hp)
    go_ret
    exact ⟨ret_int (by rw [HR.out]; rfl), hb1.alloc hb1.size _⟩
  | some t =>
    obtain ⟨hpt, hsz, ty, hty, hrt, hk⟩ := typeTree_some ht
    have HR := hid hrt
    have HTY := hid hty
    have HT := hid ht
    clear ht hpt hty hrt hk
    go_enter Try.func28, Try.ntmps28
    go_wp2_with (first | (go_at_call 44; refine (HC.out _).mono ?_; rintro e w1 hp; rw [HT.out] at hp; obtain ⟨pa, pp, pl, pc, rfl, hb1, htr⟩ := hp.some; clear hp; have HD := hid (fun W hk hs => l1Count_any htr ty HTY.out W hk hs); clear htr) | (go_at_call 51; refine (HD.out _ ((Kept.refl _).alloc (Nat.le_refl _) _) (by simp)).mono ?_; rintro e w2 ⟨rfl, hb2⟩))
    go_ret
    have s1 := hb1.size
    exact ⟨ret_int (by rw [HR.out]; rfl), hb1.trans (((Below.refl _ _).alloc s1 _).trans (hb2.mono (by simp; omega)))⟩
end Go.Proofs.Ytknjpdbdchnpeaa

namespace Go.Proofs.Ytknjpdbdchnpeaa
open Go.RowKit Go.Maps

set_option maxRecDepth 100000 in
set_option maxHeartbeats 1000000 in
theorem implTypeCount_any (s : ByteArray) (hs : s.size ≤ 400000000) (w : World) : Calls Try.prog 26 #[.string s] w fun e w' => e = .returned (.int .i64 (cntO (readTy s))) ∧ Below w.heap.size w w' := by
  have HC := hid (fun W => readType_any s hs W)
  cases hr : readTy s with
  | none =>
    have HR := hid hr
    clear hr
    go_enter Try.func26, Try.ntmps26
    go_wp2_with (go_at_call 43; refine (HC.out _).mono ?_; rintro e w1 hp; rw [HR.out] at hp; obtain ⟨rfl, hb1⟩ := hp.none; clear hp)
    go_ret
    exact ⟨rfl, hb1⟩
  | some ty =>
    have hsm := readTy_small hr
    have HR := hid hr
    have HD := hid (fun (W : World) => count_any ty hsm (W.alloc (.map #[] 0)) W.heap.size 0 (.map []) (World.ownsMap_made W Try.prog 9 (plainElem Try.prog 3)) good_none (by omega))
    have hmm := @run_makeMap Try.prog
    obtain ⟨V, hV⟩ : ∃ V, cntO (some ty) = V := ⟨_, rfl⟩
    rw [show cntV ty.cnt = V from hV] at HD
    rw [hV]
    clear hr hsm hV
    go_enter Try.func26, Try.ntmps26
    go_wp2_with (first | (go_at_call 43; refine (HC.out _).mono ?_; rintro e w1 hp; rw [HR.out] at hp; obtain ⟨rfl, hb1⟩ := hp.some; clear hp) | (go_at_call 50; refine (HD.out _).mono ?_; rintro e w2 ⟨rfl, hg2, hrest⟩; have HG2 := hid hg2; clear hg2 hrest))
    go_ret
    exact ⟨rfl, grown_below hb1 HG2.out⟩
end Go.Proofs.Ytknjpdbdchnpeaa
