/- The model's reading of a term. -/
import Derived.Test.YtfogjomebcponaaDoorSortH
namespace Go.Proofs.YtfogjomebcponaaDoor
open Go.RowKit

/-- What the model reads a text as. -/
def termTree (s : ByteArray) : Option Tree :=
  match parse s with
  | some t => if t.srt ≠ none ∧ t.size ≤ 1500 then some t else none
  | none => none
theorem termTree_read (s : ByteArray) : (termTree s).isSome = (readTm s).isSome := by
  unfold termTree readTm
  cases parse s with
  | none => rfl
  | some t =>
    simp only
    have h := tm_isVal t []
    by_cases hs : t.size ≤ 1500
    · rw [if_pos hs]
      cases ht : t.tm [] with
      | none => rw [ht] at h; rw [if_neg (fun hh => hh.1 h.symm)]; rfl
      | some m => rw [ht] at h; rw [if_pos ⟨(fun e => by rw [e] at h; simp at h), hs⟩]; rfl
    · rw [if_neg hs, if_neg (fun hh => hs hh.2)]; rfl
theorem termTree_sort {s : ByteArray} {t : Tree} (h : termTree s = some t) : parse s = some t ∧ sortOf s = srtS t.srt := by
  unfold termTree at h
  cases hp : parse s with
  | none => rw [hp] at h; simp at h
  | some u =>
    rw [hp] at h; simp only at h
    split at h
    · rename_i hc
      simp at h; subst h
      refine ⟨rfl, ?_⟩
      rw [sortOf, readTm, hp]
      simp only
      rw [if_pos hc.2, tm_isVal]
    · simp at h
theorem termTree_no {s : ByteArray} (h : termTree s = none) : sortOf s = ByteArray.empty := by
  have := termTree_read s
  rw [h] at this
  cases hr : readTm s with
  | none => rw [sortOf, hr]; rfl
  | some m => rw [hr] at this; simp at this

theorem termPost_close {s : ByteArray} {w w' : World} {t : Tree} {a : ByteArray} {p : Option Addr} {l c : Nat} (hp : parse s = some t) (hk : t.srt ≠ none)
    (ht : TIn w' (fun b => w.heap.size ≤ b) t ⟨a, p, l, c⟩) (hb : Below w.heap.size w w') : TreePost (termTree s) w (.returned (.tuple #[.agg #[.string a, .slice p l c], .bool (decide ((t.size : Int) ≤ 1500))])) w' := by
  by_cases h : t.size ≤ 1500
  · have e : termTree s = some t := by rw [termTree, hp]; simp only; rw [if_pos ⟨hk, h⟩]
    have d : decide ((t.size : Int) ≤ 1500) = true := decide_eq_true (by omega)
    rw [e, d]; exact treePost_some ht hb
  · have e : termTree s = none := by rw [termTree, hp]; simp only; rw [if_neg (fun x => h x.2)]
    have d : decide ((t.size : Int) ≤ 1500) = false := decide_eq_false (by omega)
    rw [e, d]; exact treePost_none ht.len hb
set_option maxRecDepth 100000 in
set_option maxHeartbeats 2000000 in
theorem l2Term_yes (s : ByteArray) (hs : s.size ≤ 400000000) (w : World) (t : Tree) (hp : parse s = some t) (hk : t.srt ≠ none) : Calls Tryd.prog 14 #[.string s] w (TreePost (termTree s) w) := by
  have HC := hid (fun W => l1Parse_any s hs W)
  have HP := hid hp
  have hwt := parse_wt hp
  have hok := hid (parse_ok hp)
  have hsz := size_le_wt t
  clear hp
  go_enter Tryd.func14, Tryd.ntmps14
  go_wp2_with (go_at_call 18; refine (HC.out _).mono ?_; rintro e w1 hp; rw [HP.out] at hp; obtain ⟨pa, pp, pl, pc, rfl, hb1, ht⟩ := hp.some; clear hp)
  have q0 := block_below (heap_new w (.cells #[.string ByteArray.empty, .slice none 0 0] 27) _ rfl) hb1 (by simp)
  have hlt := lt_of_block q0
  have e0 : ByteArray.empty = ({ data := #[] } : ByteArray) := rfl
  rw [e0] at q0
  clear e0
  obtain ⟨W, hW⟩ : ∃ W, W = w1.alloc (.cells #[.string pa, .slice pp pl pc] 27) := ⟨_, rfl⟩
  have kW : Kept w1 W := hW ▸ (Kept.refl w1).alloc (Nat.le_refl _) _
  have sW : w1.heap.size + 1 = W.heap.size := by rw [hW]; simp
  have c0 := cells_of_pair (pair_alloc q0 (.cells #[.string pa, .slice pp pl pc] 27))
  have c1 := cells_of_pair (heap_new w1 (.cells #[.string pa, .slice pp pl pc] 27) _ rfl)
  rw [← hW] at c0 c1 ⊢
  have SW := hid sW
  have HRES := hid (hW ▸ pair_alloc q0 (.cells #[.string pa, .slice pp pl pc] 27))
  have ht2 : TIn w1 (fun b => w.heap.size + 1 ≤ b) t ⟨pa, pp, pl, pc⟩ := ht.keep (fun _ _ _ => rfl) (fun k hk _ => by simpa using hk)
  have hsz2 : t.size ≤ 12000 := by omega
  have HC1 := hid (fun Wx (hb : But w.heap.size W Wx) => l2Sort_any (ht2.keep (w' := Wx) (S' := fun _ => True) (fun k hk hl => (hb.block k (by omega) (by omega)).trans (kW k hl)) (fun _ _ _ => trivial)) hwt hok.out Wx (Kept.refl _) (Nat.le_refl _))
  have HC2 := hid (fun Wx (hb : But w.heap.size W Wx) => l1Size_any (ht2.keep (w' := Wx) (S' := fun _ => True) (fun k hk hl => (hb.block k (by omega) (by omega)).trans (kW k hl)) (fun _ _ _ => trivial)) hsz2 Wx (Kept.refl _) (Nat.le_refl _))
  have HWE := hid hW
  have HB1 := hid hb1
  have HT := hid ht
  have HK := hid hk
  have hke : (srtS t.srt).toList.isEmpty = false := by rw [srtS_e]; exact decide_eq_false hk
  clear hk
  clear hW sW kW hb1 q0 ht ht2
  have hl1 : w1.heap.size < W.heap.size := by have := SW.out; omega
  have hl0 : w.heap.size < W.heap.size := by omega
  go_region_with (first | (go_at_call 27; refine (HC1.out _ ?_).mono ?_; exact But.start HRES.out; rintro e w2 ⟨rfl, hb2⟩; have hbW := Below.thenH (Below.refl _ W).drew hb2; have kk := keepH c1 c0 hl1 hl0 hbW) | (go_at_call 20; refine (HC2.out _ ?_).mono ?_; exact But.call (But.start HRES.out) hl0 hb2; rintro e w3 ⟨rfl, hb3⟩; have hbW2 := Below.thenH hbW hb3; have kk2 := keepH c1 c0 hl1 hl0 hbW2))
  all_goals
    go_wp2_with fail
    refine bodyPost_ret (v := .tuple #[.agg #[.string pa, .slice pp pl pc], .bool (decide ((t.size : Int) ≤ 1500))]) (by simp [results, Tryd.results14, go_sem, kk2.2.2.1, kk2.2.2.2.1]) rfl ?_
    go_light
    have hcl := tree_close HB1.out HT.out (HWE.out ▸ hbW2) (.string pa) (.slice pp pl pc)
    exact termPost_close HP.out HK.out hcl.1 hcl.2

set_option maxRecDepth 100000 in
set_option maxHeartbeats 2000000 in
theorem l2Term_no (s : ByteArray) (hs : s.size ≤ 400000000) (w : World) (t : Tree) (hp : parse s = some t) (hk : t.srt = none) : Calls Tryd.prog 14 #[.string s] w (TreePost none w) := by
  have HC := hid (fun W => l1Parse_any s hs W)
  have hke : (srtS t.srt).toList.isEmpty = true := by rw [srtS_e]; exact decide_eq_true hk
  clear hk
  have HP := hid hp
  have hwt := parse_wt hp
  have hok := hid (parse_ok hp)
  clear hp
  go_enter Tryd.func14, Tryd.ntmps14
  go_wp2_with (go_at_call 18; refine (HC.out _).mono ?_; rintro e w1 hp; rw [HP.out] at hp; obtain ⟨pa, pp, pl, pc, rfl, hb1, ht⟩ := hp.some; clear hp)
  have q0 := block_below (heap_new w (.cells #[.string ByteArray.empty, .slice none 0 0] 27) _ rfl) hb1 (by simp)
  have hlt := lt_of_block q0
  have e0 : ByteArray.empty = ({ data := #[] } : ByteArray) := rfl
  rw [e0] at q0
  clear e0
  obtain ⟨W, hW⟩ : ∃ W, W = w1.alloc (.cells #[.string pa, .slice pp pl pc] 27) := ⟨_, rfl⟩
  have kW : Kept w1 W := hW ▸ (Kept.refl w1).alloc (Nat.le_refl _) _
  have sW : w1.heap.size + 1 = W.heap.size := by rw [hW]; simp
  have c0 := cells_of_pair (pair_alloc q0 (.cells #[.string pa, .slice pp pl pc] 27))
  have c1 := cells_of_pair (heap_new w1 (.cells #[.string pa, .slice pp pl pc] 27) _ rfl)
  rw [← hW] at c0 c1 ⊢
  have SW := hid sW
  have HRES := hid (hW ▸ pair_alloc q0 (.cells #[.string pa, .slice pp pl pc] 27))
  have ht2 : TIn w1 (fun b => w.heap.size + 1 ≤ b) t ⟨pa, pp, pl, pc⟩ := ht.keep (fun _ _ _ => rfl) (fun k hk _ => by simpa using hk)
  have HC1 := hid (fun Wx (hb : But w.heap.size W Wx) => l2Sort_any (ht2.keep (w' := Wx) (S' := fun _ => True) (fun k hk hl => (hb.block k (by omega) (by omega)).trans (kW k hl)) (fun _ _ _ => trivial)) hwt hok.out Wx (Kept.refl _) (Nat.le_refl _))
  have HWE := hid hW
  have HB1 := hid hb1
  have HT := hid ht
  clear hW sW kW hb1 q0 ht ht2
  have hl1 : w1.heap.size < W.heap.size := by have := SW.out; omega
  have hl0 : w.heap.size < W.heap.size := by omega
  go_region_with (first | (go_at_call 27; refine (HC1.out _ ?_).mono ?_; exact But.start HRES.out; rintro e w2 ⟨rfl, hb2⟩; have hbW := Below.thenH (Below.refl _ W).drew hb2; have kk := keepH c1 c0 hl1 hl0 hbW))
  all_goals
    go_wp2_with fail
    refine bodyPost_ret (v := .tuple #[.agg #[.string pa, .slice pp pl pc], .bool false]) (by simp [results, Tryd.results14, go_sem, kk.2.2.1, kk.2.2.2.1]) rfl ?_
    go_light
    have hcl := tree_close HB1.out HT.out (HWE.out ▸ hbW) (.string pa) (.slice pp pl pc)
    exact treePost_none HT.out.len hcl.2

set_option maxRecDepth 100000 in
set_option maxHeartbeats 2000000 in
theorem l2Term_none (s : ByteArray) (hs : s.size ≤ 400000000) (w : World) (hp : parse s = none) : Calls Tryd.prog 14 #[.string s] w (TreePost none w) := by
  have HC := hid (fun W => l1Parse_any s hs W)
  have HP := hid hp
  clear hp
  go_enter Tryd.func14, Tryd.ntmps14
  go_wp2_with (go_at_call 18; refine (HC.out _).mono ?_; rintro e w1 hp; rw [HP.out] at hp; obtain ⟨pa, pp, pl, pc, rfl, hpl, hb1⟩ := hp.none; clear hp)
  have q0 := block_below (heap_new w (.cells #[.string ByteArray.empty, .slice none 0 0] 27) _ rfl) hb1 (by simp)
  have hlt := lt_of_block q0
  have e0 : ByteArray.empty = ({ data := #[] } : ByteArray) := rfl
  rw [e0] at q0
  clear e0
  have c0 := cells_of_pair (pair_alloc q0 (.cells #[.string pa, .slice pp pl pc] 27))
  have c1 := cells_of_pair (heap_new w1 (.cells #[.string pa, .slice pp pl pc] 27) _ rfl)
  obtain ⟨W, hW⟩ : ∃ W, W = w1.alloc (.cells #[.string pa, .slice pp pl pc] 27) := ⟨_, rfl⟩
  rw [← hW] at c0 c1 ⊢
  have HWE := hid hW
  have HB1 := hid hb1
  clear q0 hb1 hW
  go_region
  all_goals
    go_wp2_with fail
    refine bodyPost_ret (v := .tuple #[.agg #[.string pa, .slice pp pl pc], .bool false]) (by simp [results, Tryd.results14, go_sem, c0.1, c0.2.1]) rfl ?_
    go_light
    have hcl := result_below HB1.out (.cells #[.string pa, .slice pp pl pc] 27) (.string pa) (.slice pp pl pc)
    rw [← HWE.out] at hcl
    exact treePost_none hpl (below_same hcl)

/-- THE MODEL's READING OF A TERM. -/
theorem l2Term_any (s : ByteArray) (hs : s.size ≤ 400000000) (w : World) : Calls Tryd.prog 14 #[.string s] w (TreePost (termTree s) w) := by
  cases hp : parse s with
  | none =>
    have e : termTree s = none := by rw [termTree, hp]
    rw [e]; exact l2Term_none s hs w hp
  | some t =>
    by_cases hk : t.srt = none
    · have e : termTree s = none := by rw [termTree, hp]; simp [hk]
      rw [e]; exact l2Term_no s hs w t hp hk
    · exact l2Term_yes s hs w t hp hk
end Go.Proofs.YtfogjomebcponaaDoor
