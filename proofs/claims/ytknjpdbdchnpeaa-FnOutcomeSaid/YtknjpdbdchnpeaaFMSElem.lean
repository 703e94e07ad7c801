/- Merged: Elem. -/
import Derived.IntWalk
import Derived.Test.YtknjpdbdchnpeaaFMSAround
namespace Go.Proofs.Ytknjpdbdchnpeaa
open Go.RowKit

theorem el_alloc_old (w : World) (o : Obj) {r : Nat} (h : r < w.heap.size) : (w.alloc o).heap[r]? = w.heap[r]? := by
  first
  | exact heap_alloc_old w o h
  | exact heap_alloc_old w o r h
/-- The tree of a type that has one of two heads, a known count and an element. -/
def elemTree (s : ByteArray) (a b : UInt8) (k : Int) : Option Tree := match typeTree s with
  | some t => if (around (readTy s) a b k).isSome then some t else none
  | none => none
theorem l6In_any (n lo hi : Int) (w : World) : Calls Try.prog 59 #[.int .i64 n, .int .i64 lo, .int .i64 hi] w fun e w' => e = .returned (.bool (decide (lo ≤ n ∧ n ≤ hi))) ∧ w = w' := by
  by_cases h0 : lo ≤ n
  · by_cases h1 : n ≤ hi
    · have e : decide (lo ≤ n ∧ n ≤ hi) = true := decide_eq_true ⟨h0, h1⟩
      rw [e]
      go_enter Try.func59, Try.ntmps59
      go_wp2
      go_ret
      exact ⟨rfl, rfl⟩
    · have e : decide (lo ≤ n ∧ n ≤ hi) = false := decide_eq_false (fun h => h1 h.2)
      rw [e]
      go_enter Try.func59, Try.ntmps59
      go_wp2
      go_ret
      exact ⟨rfl, rfl⟩
  · have e : decide (lo ≤ n ∧ n ≤ hi) = false := decide_eq_false (fun h => h0 h.1)
    rw [e]
    go_enter Try.func59, Try.ntmps59
    go_wp2
    go_ret
    exact ⟨rfl, rfl⟩
/-- The first atom of a type with parts. -/
theorem headAtom_ty {t : Tree} {ty : Ty} (h : t.ty = some ty) : (t.headAtom.toList = [ty.headB] ∧ ty.headB ≠ 98) ∨ (t.headAtom.toList = [] ∧ ty = .bit) := by
  match t with
  | .atom s =>
    rw [Tree.ty] at h
    split at h
    · simp at h; exact Or.inr ⟨empty_toList, h.symm⟩
    · simp at h
  | .node [] => rw [Tree.ty] at h; simp at h
  | .node (q :: qs) =>
    rw [Tree.ty] at h
    cases hk : Tree.tys qs with
    | none => rw [hk] at h; simp at h
    | some ks =>
      rw [hk] at h; simp only at h
      refine Or.inl ⟨tyParts_head h, ?_⟩
      intro e
      have hb : ty = .bit := by cases ty <;> simp_all [Ty.headB]
      subst hb
      have := (tyParts_cases h)
      simp at this

set_option maxRecDepth 100000 in
set_option maxHeartbeats 2000000 in
theorem l1Element_none (s : ByteArray) (hs : s.size ≤ 400000000) (x y : ByteArray) (k : Int) (w : World) (hp : typeTree s = none) : Calls Try.prog 55 #[.string s, .string x, .string y, .int .i64 k] w (TreePost none w) := by
  have HC := hid (fun W => l1Type_any s hs W)
  have HP := hid hp
  clear hp
  go_enter Try.func55, Try.ntmps55
  go_wp2_with (go_at_call 44; refine (HC.out _).mono ?_; rintro e w1 hp; rw [HP.out] at hp; obtain ⟨pa, pp, pl, pc, rfl, hpl, hb1⟩ := hp.none; clear hp; have k0 := fun o => cells_of_pair (pair_alloc (block_below (heap_new w (.cells #[.string ByteArray.empty, .slice none 0 0] 56) _ rfl) hb1 (by simp)) o))
  refine bodyPost_ret (v := .tuple #[.agg #[.string pa, .slice pp pl pc], .bool false]) (by simp [results, Try.results55, go_sem, (k0 _).1, (k0 _).2.1]) rfl ?_
  go_light
  exact treePost_none hpl (result_below hb1 _ _ _)

/-- What l1Element leaves. -/
def pickT (B : Bool) (t : Tree) : Option Tree := if B = true then some t else none
theorem treePost_pick {w w' : World} {t : Tree} {a : ByteArray} {p : Option Addr} {l c : Nat} {B : Bool} (ht : TIn w' (fun b => w.heap.size ≤ b) t ⟨a, p, l, c⟩) (hb : Below w.heap.size w w') : TreePost (pickT B t) w (.returned (.tuple #[.agg #[.string a, .slice p l c], .bool B])) w' := by
  cases B with
  | true => exact treePost_some ht hb
  | false => exact treePost_none ht.len hb

set_option maxRecDepth 100000 in
set_option maxHeartbeats 2000000 in
theorem l1Element_not (s : ByteArray) (hs : s.size ≤ 400000000) (x y : ByteArray) (k : Int) (w : World) (t : Tree) (hp : typeTree s = some t) (e1 : (t.headAtom.toList == x.toList) = false) (e2 : (t.headAtom.toList == y.toList) = false) : Calls Try.prog 55 #[.string s, .string x, .string y, .int .i64 k] w (TreePost none w) := by
  have HC := hid (fun W => l1Type_any s hs W)
  have HP := hid hp
  clear hp
  have e1' : (!t.headAtom.toList == x.toList) = true := by rw [e1]; rfl
  have e2' : (!t.headAtom.toList == y.toList) = true := by rw [e2]; rfl
  go_enter Try.func55, Try.ntmps55
  go_wp2_with (first | (have _ := k2; go_at_call 71; refine (HH.out _ (((Kept.refl w1).alloc (Nat.le_refl _) _).below hb2 (by simp))).mono ?_; rintro e w3 ⟨rfl, hb3⟩; have k4 := cells_of_pair (block_below (block_below Q1.out hb2 (by simp)) hb3 (by have := hb2.size; simp at this; omega)); have k5 := cells_of_pair (block_below (block_below (Q0.out _) hb2 (by have := lt_of_block (Q0.out (.cells #[.string pa, .slice pp pl pc] 56)); simpa using this)) hb3 (by have := hb2.size; have h0 := lt_of_block (Q0.out (.cells #[.string pa, .slice pp pl pc] 56)); simp at this h0; omega))) | (go_at_call 71; refine (HH.out _ ((Kept.refl w1).alloc (Nat.le_refl _) _)).mono ?_; rintro e w2 ⟨rfl, hb2⟩; have k2 := cells_of_pair (block_below Q1.out hb2 (by simp)); have k3 := cells_of_pair (block_below (Q0.out _) hb2 (by have := lt_of_block (Q0.out (.cells #[.string pa, .slice pp pl pc] 56)); simpa using this))) | (go_at_call 44; refine (HC.out _).mono ?_; rintro e w1 hp; rw [HP.out] at hp; obtain ⟨pa, pp, pl, pc, rfl, hb1, ht⟩ := hp.some; clear hp; have HB1 := hid hb1; have HT := hid ht; have HH := hid (fun W hk => l1Head_any (w := W) ht hk); clear ht; have q0 := fun o => pair_alloc (block_below (heap_new w (.cells #[.string ByteArray.empty, .slice none 0 0] 56) _ rfl) hb1 (by simp)) o; have q1 := heap_new w1 (.cells #[.string pa, .slice pp pl pc] 56) _ rfl; have Q0 := hid q0; have Q1 := hid q1; have k0 := cells_of_pair (q0 (.cells #[.string pa, .slice pp pl pc] 56)); have k1 := cells_of_pair q1; clear hb1 q0 q1))
  refine bodyPost_ret (v := .tuple #[.agg #[.string pa, .slice pp pl pc], .bool false]) (by simp [results, Try.results55, go_sem, k5.1, k5.2.1]) rfl ?_
  go_light
  have hcl := tree_close HB1.out HT.out (hb2.trans (hb3.mono hb2.size)) (.string pa) (.slice pp pl pc)
  exact treePost_none HT.out.len hcl.2

set_option maxRecDepth 100000 in
set_option maxHeartbeats 2000000 in
theorem l1Element_fst (s : ByteArray) (hs : s.size ≤ 400000000) (x y : ByteArray) (k : Int) (w : World) (t : Tree) (hp : typeTree s = some t) (ty : Ty) (hty : t.ty = some ty) (V : Int) (hV : cntV ty.cnt = V) (hV0 : -1 ≤ V) (hV1 : V ≤ 5000) (B : Bool) (hB : decide (0 ≤ k ∧ k ≤ V - 1) = B) (e1 : (t.headAtom.toList == x.toList) = true) : Calls Try.prog 55 #[.string s, .string x, .string y, .int .i64 k] w (TreePost (pickT B t) w) := by
  have HC := hid (fun W => l1Type_any s hs W)
  have HP := hid hp
  clear hp
  have e1' : (!t.headAtom.toList == x.toList) = false := by rw [e1]; rfl
  go_enter Try.func55, Try.ntmps55
  go_wp2_with (first | (go_at_call 71; refine (HH.out _ ((Kept.refl w1).alloc (Nat.le_refl _) _)).mono ?_; rintro e w2 ⟨rfl, hb2⟩; have k2 := cells_of_pair (block_below Q1.out hb2 (by simp)); have k3 := cells_of_pair (block_below (Q0.out _) hb2 (by have := lt_of_block (Q0.out (.cells #[.string pa, .slice pp pl pc] 56)); simpa using this))) | (go_at_call 44; refine (HC.out _).mono ?_; rintro e w1 hp; rw [HP.out] at hp; obtain ⟨pa, pp, pl, pc, rfl, hb1, ht⟩ := hp.some; clear hp; have HB1 := hid hb1; have HT := hid ht; have HH := hid (fun W hk => l1Head_any (w := W) ht hk); clear ht; have q0 := fun o => pair_alloc (block_below (heap_new w (.cells #[.string ByteArray.empty, .slice none 0 0] 56) _ rfl) hb1 (by simp)) o; have q1 := heap_new w1 (.cells #[.string pa, .slice pp pl pc] 56) _ rfl; have Q0 := hid q0; have Q1 := hid q1; have k0 := cells_of_pair (q0 (.cells #[.string pa, .slice pp pl pc] 56)); have k1 := cells_of_pair q1; clear hb1 q0 q1))
  have hl0 := lt_of_block (Q0.out (.cells #[.string pa, .slice pp pl pc] 56))
  have hl1 := lt_of_block Q1.out
  simp at hl0 hl1
  have hzW := hb2.size
  simp at hzW
  have HBW := hid (hb2)
  have HRES := hid (block_below (Q0.out (.cells #[.string pa, .slice pp pl pc] 56)) HBW.out (by simp; omega))
  have HCT := hid (fun Wx (hb : But w.heap.size w2 Wx) => l1Count_any (HT.out.keep (w' := Wx) (S' := fun _ => True) (fun k hk hl => (hb.block k (by omega) (by simp at hk; omega)).trans ((HBW.out.block k (by simp; omega)).trans (el_alloc_old w1 _ hl))) (fun _ _ _ => trivial)) ty hty Wx (Kept.refl _) (Nat.le_refl _))
  rw [hV] at HCT
  have wV : IntKind.i64.wrap (V - 1) = V - 1 := IntWalk.i64_in (V - 1) (by omega)
  have HI := hid (fun W => by have := l6In_any k 0 (V - 1) W; rw [hB] at this; exact this)
  have hl0' : w.heap.size < w2.heap.size := by omega
  have hl1' : w1.heap.size < w2.heap.size := by omega
  clear hV hB hty 
  go_region_with (first | (go_at_call 51; refine (HCT.out _ ?_).mono ?_; exact But.start HRES.out; rintro e w4 ⟨rfl, hb4⟩; have hbW := Below.thenH (Below.refl _ w2).drew hb4; have kk := keepH k2 k3 hl1' hl0' hbW) | (go_at_call 59; refine (HI.out _).mono ?_; rintro e w5 ⟨rfl, rfl⟩))
  all_goals
    go_wp2_with fail
    refine bodyPost_ret (v := .tuple #[.agg #[.string pa, .slice pp pl pc], .bool B]) (by simp [results, Try.results55, go_sem, kk.2.2.1, kk.2.2.2.1]) rfl ?_
    go_light
    have hcl := tree_close HB1.out HT.out (HBW.out.trans (hbW.mono HBW.out.size)) (.string pa) (.slice pp pl pc)
    exact treePost_pick hcl.1 hcl.2

set_option maxRecDepth 100000 in
set_option maxHeartbeats 2000000 in
theorem l1Element_snd (s : ByteArray) (hs : s.size ≤ 400000000) (x y : ByteArray) (k : Int) (w : World) (t : Tree) (hp : typeTree s = some t) (ty : Ty) (hty : t.ty = some ty) (V : Int) (hV : cntV ty.cnt = V) (hV0 : -1 ≤ V) (hV1 : V ≤ 5000) (B : Bool) (hB : decide (0 ≤ k ∧ k ≤ V - 1) = B) (e1 : (t.headAtom.toList == x.toList) = false) (e2 : (t.headAtom.toList == y.toList) = true) : Calls Try.prog 55 #[.string s, .string x, .string y, .int .i64 k] w (TreePost (pickT B t) w) := by
  have HC := hid (fun W => l1Type_any s hs W)
  have HP := hid hp
  clear hp
  have e1' : (!t.headAtom.toList == x.toList) = true := by rw [e1]; rfl
  have e2' : (!t.headAtom.toList == y.toList) = false := by rw [e2]; rfl
  go_enter Try.func55, Try.ntmps55
  go_wp2_with (first | (have _ := k2; go_at_call 71; refine (HH.out _ (((Kept.refl w1).alloc (Nat.le_refl _) _).below hb2 (by simp))).mono ?_; rintro e w3 ⟨rfl, hb3⟩; have k4 := cells_of_pair (block_below (block_below Q1.out hb2 (by simp)) hb3 (by have := hb2.size; simp at this; omega)); have k5 := cells_of_pair (block_below (block_below (Q0.out _) hb2 (by have := lt_of_block (Q0.out (.cells #[.string pa, .slice pp pl pc] 56)); simpa using this)) hb3 (by have := hb2.size; have h0 := lt_of_block (Q0.out (.cells #[.string pa, .slice pp pl pc] 56)); simp at this h0; omega))) | (go_at_call 71; refine (HH.out _ ((Kept.refl w1).alloc (Nat.le_refl _) _)).mono ?_; rintro e w2 ⟨rfl, hb2⟩; have k2 := cells_of_pair (block_below Q1.out hb2 (by simp)); have k3 := cells_of_pair (block_below (Q0.out _) hb2 (by have := lt_of_block (Q0.out (.cells #[.string pa, .slice pp pl pc] 56)); simpa using this))) | (go_at_call 44; refine (HC.out _).mono ?_; rintro e w1 hp; rw [HP.out] at hp; obtain ⟨pa, pp, pl, pc, rfl, hb1, ht⟩ := hp.some; clear hp; have HB1 := hid hb1; have HT := hid ht; have HH := hid (fun W hk => l1Head_any (w := W) ht hk); clear ht; have q0 := fun o => pair_alloc (block_below (heap_new w (.cells #[.string ByteArray.empty, .slice none 0 0] 56) _ rfl) hb1 (by simp)) o; have q1 := heap_new w1 (.cells #[.string pa, .slice pp pl pc] 56) _ rfl; have Q0 := hid q0; have Q1 := hid q1; have k0 := cells_of_pair (q0 (.cells #[.string pa, .slice pp pl pc] 56)); have k1 := cells_of_pair q1; clear hb1 q0 q1))
  have hl0 := lt_of_block (Q0.out (.cells #[.string pa, .slice pp pl pc] 56))
  have hl1 := lt_of_block Q1.out
  simp at hl0 hl1
  have hzW := (hb2.trans (hb3.mono hb2.size)).size
  simp at hzW
  have HBW := hid ((hb2.trans (hb3.mono hb2.size)))
  have HRES := hid (block_below (Q0.out (.cells #[.string pa, .slice pp pl pc] 56)) HBW.out (by simp; omega))
  have HCT := hid (fun Wx (hb : But w.heap.size w3 Wx) => l1Count_any (HT.out.keep (w' := Wx) (S' := fun _ => True) (fun k hk hl => (hb.block k (by omega) (by simp at hk; omega)).trans ((HBW.out.block k (by simp; omega)).trans (el_alloc_old w1 _ hl))) (fun _ _ _ => trivial)) ty hty Wx (Kept.refl _) (Nat.le_refl _))
  rw [hV] at HCT
  have wV : IntKind.i64.wrap (V - 1) = V - 1 := IntWalk.i64_in (V - 1) (by omega)
  have HI := hid (fun W => by have := l6In_any k 0 (V - 1) W; rw [hB] at this; exact this)
  have hl0' : w.heap.size < w3.heap.size := by omega
  have hl1' : w1.heap.size < w3.heap.size := by omega
  clear hV hB hty 
  go_region_with (first | (go_at_call 51; refine (HCT.out _ ?_).mono ?_; exact But.start HRES.out; rintro e w4 ⟨rfl, hb4⟩; have hbW := Below.thenH (Below.refl _ w3).drew hb4; have kk := keepH k4 k5 hl1' hl0' hbW) | (go_at_call 59; refine (HI.out _).mono ?_; rintro e w5 ⟨rfl, rfl⟩))
  all_goals
    go_wp2_with fail
    refine bodyPost_ret (v := .tuple #[.agg #[.string pa, .slice pp pl pc], .bool B]) (by simp [results, Try.results55, go_sem, kk.2.2.1, kk.2.2.2.1]) rfl ?_
    go_light
    have hcl := tree_close HB1.out HT.out (HBW.out.trans (hbW.mono HBW.out.size)) (.string pa) (.slice pp pl pc)
    exact treePost_pick hcl.1 hcl.2

end Go.Proofs.Ytknjpdbdchnpeaa
