/- Merged: SortT0. -/
import Derived.Test.YtfogjomebcponaaGreatDoorZGc25
namespace Go.Proofs.YtfogjomebcponaaGreatDoor
open Go.RowKit
set_option maxRecDepth 100000
set_option maxHeartbeats 2000000
def ter (s : ByteArray) : Option Tree :=
 match parse s with
 | some t => if t.srt ≠ none ∧ t.size ≤ 1500 then some t else none
 | none => none
theorem termTree_read (s : ByteArray) : (ter s).isSome = (readTm s).isSome := by
 unfold ter readTm
 cases parse s with
 | none => rfl
 | some t =>
  simp only
  have h := tm_isVal t []
  by_cases hs : t.size ≤ 1500
  ·rw [if_pos hs]
   cases ht : t.tm [] with
   | none => rw [ht] at h; rw [if_neg (fun hh => hh.1 h.symm)]; rfl
   | some m => rw [ht] at h; rw [if_pos ⟨(fun e => by rw [e] at h; simp at h), hs⟩]; rfl
  ·rw [if_neg hs, if_neg (fun hh => hs hh.2)]; rfl
theorem termTree_sort {s : ByteArray} {t : Tree} (h : ter s = some t) : parse s = some t ∧ sortOf s = srtS t.srt := by
 unfold ter at h
 cases hp : parse s with
 | none => rw [hp] at h; simp at h
 | some u =>
  rw [hp] at h; simp only at h
  split at h
  ·rename_i hc
   simp at h; subst h
   refine ⟨rfl, ?_⟩
   rw [sortOf, readTm, hp]
   simp only
   rw [if_pos hc.2, tm_isVal]
  ·simp at h
theorem termTree_no {s : ByteArray} (h : ter s = none) : sortOf s = ByteArray.empty := by
 have := termTree_read s
 rw [h] at this
 cases hr : readTm s with
 | none => rw [sortOf, hr]; rfl
 | some m => rw [hr] at this; simp at this
theorem termPost_close {s : ByteArray} {w w' : World} {t : Tree} {a : ByteArray} {p : Option Addr} {l c : Nat} (hp : parse s = some t) (hk : t.srt ≠ none)
    (ht : TIn w' (fun b => w.heap.size ≤ b) t ⟨a, p, l, c⟩) (hb : Below w.heap.size w w') : Tre (ter s) w (.returned (.tuple #[.agg #[.string a, .slice p l c], .bool (decide ((t.size : Int) ≤ 1500))])) w' := by
 by_cases h : t.size ≤ 1500
 ·have e : ter s = some t := by rw [ter, hp]; simp only; rw [if_pos ⟨hk, h⟩]
  have d : decide ((t.size : Int) ≤ 1500) = true := decide_eq_true (by omega)
  rw [e, d]; exact trp ht hb
 ·have e : ter s = none := by rw [ter, hp]; simp only; rw [if_neg (fun x => h x.2)]
  have d : decide ((t.size : Int) ≤ 1500) = false := decide_eq_false (by omega)
  rw [e, d]; exact tre ht.len hb
theorem l2Term_yes (s : ByteArray) (hs : s.size ≤ 400000000) (w : World) (t : Tree) (hp : parse s = some t) (hk : t.srt ≠ none) : Calls Tryz.prog 25 #[.string s] w (Tre (ter s) w) := by
 have HC := hid (fun W => lpa s hs W)
 have HP := hid hp
 have hwt := pas hp
 have hok := hid (parse_ok hp)
 have hsz := siz t
 clear hp
 go_enter Tryz.func25, Tryz.ntmps25
 go_wp2_with (go_at_call 54; refine (HC.out _).mono ?_; rintro e w1 hp; rw [HP.out] at hp; obtain ⟨pa, pp, pl, pc, rfl, hb1, ht⟩ := hp.some; clear hp)
 have q0 := blo (hea w (.cells #[.string ByteArray.empty, .slice none 0 0] 43) _ rfl) hb1 (by simp)
 have hlt := lt_of_block q0
 have e0 : ByteArray.empty = ({ data := #[] } : ByteArray) := rfl
 rw [e0] at q0
 clear e0
 obtain ⟨W, hW⟩ : ∃ W, W = w1.alloc (.cells #[.string pa, .slice pp pl pc] 43) := ⟨_, rfl⟩
 have kW : Kept w1 W := hW ▸ (Kept.refl w1).alloc (Nat.le_refl _) _
 have sW : w1.heap.size + 1 = W.heap.size := by rw [hW]; simp
 have c0 := cel (pai q0 (.cells #[.string pa, .slice pp pl pc] 43))
 have c1 := cel (hea w1 (.cells #[.string pa, .slice pp pl pc] 43) _ rfl)
 rw [← hW] at c0 c1 ⊢
 have SW := hid sW
 have HRES := hid (hW ▸ pai q0 (.cells #[.string pa, .slice pp pl pc] 43))
 have ht2 : TIn w1 (fun b => w.heap.size + 1 ≤ b) t ⟨pa, pp, pl, pc⟩ := ht.keep (fun _ _ _ => rfl) (fun k hk _ => by simpa using hk)
 have hsz2 : t.size ≤ 12000 := by omega
 have HC1 := hid (fun Wx (hb : But w.heap.size W Wx) => l2Sort_any (ht2.keep (w' := Wx) (S' := fun _ => True) (fun k hk hl => (hb.block k (by omega) (by omega)).trans (kW k hl)) (fun _ _ _ => trivial)) hwt hok.out Wx (Kept.refl _) (Nat.le_refl _))
 have HC2 := hid (fun Wx (hb : But w.heap.size W Wx) => l1Size_any (ht2.keep (w' := Wx) (S' := fun _ => True) (fun k hk hl => (hb.block k (by omega) (by omega)).trans (kW k hl)) (fun _ _ _ => trivial)) hsz2 Wx (Kept.refl _) (Nat.le_refl _))
 have HWE := hid hW
 have HB1 := hid hb1
 have HT := hid ht
 have HK := hid hk
 have hke : (srtS t.srt).toList.isEmpty = false := by rw [srtS_e]; exact decide_eq_false hk
 clear hk
 clear hW sW kW hb1 q0 ht ht2
 have hl1 : w1.heap.size < W.heap.size := by have := SW.out; omega
 have hl0 : w.heap.size < W.heap.size := by omega
 go_region_with (first | (go_at_call 55; refine (HC1.out _ ?_).mono ?_; exact But.start HRES.out; rintro e w2 ⟨rfl, hb2⟩; have hbW := Below.thenH (Below.refl _ W).drew hb2; have kk := keepH c1 c0 hl1 hl0 hbW) | (go_at_call 56; refine (HC2.out _ ?_).mono ?_; exact But.call (But.start HRES.out) hl0 hb2; rintro e w3 ⟨rfl, hb3⟩; have hbW2 := Below.thenH hbW hb3; have kk2 := keepH c1 c0 hl1 hl0 hbW2))
 all_goals
  go_wp2_with fail
  refine bodyPost_ret (v := .tuple #[.agg #[.string pa, .slice pp pl pc], .bool (decide ((t.size : Int) ≤ 1500))]) (by simp [results, Tryz.results25, go_sem, kk2.2.2.1, kk2.2.2.2.1]) rfl ?_
  go_light
  have hcl := tree_close HB1.out HT.out (HWE.out ▸ hbW2) (.string pa) (.slice pp pl pc)
  exact termPost_close HP.out HK.out hcl.1 hcl.2
theorem l2Term_no (s : ByteArray) (hs : s.size ≤ 400000000) (w : World) (t : Tree) (hp : parse s = some t) (hk : t.srt = none) : Calls Tryz.prog 25 #[.string s] w (Tre none w) := by
 have HC := hid (fun W => lpa s hs W)
 have hke : (srtS t.srt).toList.isEmpty = true := by rw [srtS_e]; exact decide_eq_true hk
 clear hk
 have HP := hid hp
 have hwt := pas hp
 have hok := hid (parse_ok hp)
 clear hp
 go_enter Tryz.func25, Tryz.ntmps25
 go_wp2_with (go_at_call 54; refine (HC.out _).mono ?_; rintro e w1 hp; rw [HP.out] at hp; obtain ⟨pa, pp, pl, pc, rfl, hb1, ht⟩ := hp.some; clear hp)
 have q0 := blo (hea w (.cells #[.string ByteArray.empty, .slice none 0 0] 43) _ rfl) hb1 (by simp)
 have hlt := lt_of_block q0
 have e0 : ByteArray.empty = ({ data := #[] } : ByteArray) := rfl
 rw [e0] at q0
 clear e0
 obtain ⟨W, hW⟩ : ∃ W, W = w1.alloc (.cells #[.string pa, .slice pp pl pc] 43) := ⟨_, rfl⟩
 have kW : Kept w1 W := hW ▸ (Kept.refl w1).alloc (Nat.le_refl _) _
 have sW : w1.heap.size + 1 = W.heap.size := by rw [hW]; simp
 have c0 := cel (pai q0 (.cells #[.string pa, .slice pp pl pc] 43))
 have c1 := cel (hea w1 (.cells #[.string pa, .slice pp pl pc] 43) _ rfl)
 rw [← hW] at c0 c1 ⊢
 have SW := hid sW
 have HRES := hid (hW ▸ pai q0 (.cells #[.string pa, .slice pp pl pc] 43))
 have ht2 : TIn w1 (fun b => w.heap.size + 1 ≤ b) t ⟨pa, pp, pl, pc⟩ := ht.keep (fun _ _ _ => rfl) (fun k hk _ => by simpa using hk)
 have HC1 := hid (fun Wx (hb : But w.heap.size W Wx) => l2Sort_any (ht2.keep (w' := Wx) (S' := fun _ => True) (fun k hk hl => (hb.block k (by omega) (by omega)).trans (kW k hl)) (fun _ _ _ => trivial)) hwt hok.out Wx (Kept.refl _) (Nat.le_refl _))
 have HWE := hid hW
 have HB1 := hid hb1
 have HT := hid ht
 clear hW sW kW hb1 q0 ht ht2
 have hl1 : w1.heap.size < W.heap.size := by have := SW.out; omega
 have hl0 : w.heap.size < W.heap.size := by omega
 go_region_with (first | (go_at_call 55; refine (HC1.out _ ?_).mono ?_; exact But.start HRES.out; rintro e w2 ⟨rfl, hb2⟩; have hbW := Below.thenH (Below.refl _ W).drew hb2; have kk := keepH c1 c0 hl1 hl0 hbW))
 all_goals
  go_wp2_with fail
  refine bodyPost_ret (v := .tuple #[.agg #[.string pa, .slice pp pl pc], .bool false]) (by simp [results, Tryz.results25, go_sem, kk.2.2.1, kk.2.2.2.1]) rfl ?_
  go_light
  have hcl := tree_close HB1.out HT.out (HWE.out ▸ hbW) (.string pa) (.slice pp pl pc)
  exact tre HT.out.len hcl.2
theorem l2Term_none (s : ByteArray) (hs : s.size ≤ 400000000) (w : World) (hp : parse s = none) : Calls Tryz.prog 25 #[.string s] w (Tre none w) := by
 have HC := hid (fun W => lpa s hs W)
 have HP := hid hp
 clear hp
 go_enter Tryz.func25, Tryz.ntmps25
 go_wp2_with (go_at_call 54; refine (HC.out _).mono ?_; rintro e w1 hp; rw [HP.out] at hp; obtain ⟨pa, pp, pl, pc, rfl, hpl, hb1⟩ := hp.none; clear hp)
 have q0 := blo (hea w (.cells #[.string ByteArray.empty, .slice none 0 0] 43) _ rfl) hb1 (by simp)
 have hlt := lt_of_block q0
 have e0 : ByteArray.empty = ({ data := #[] } : ByteArray) := rfl
 rw [e0] at q0
 clear e0
 have c0 := cel (pai q0 (.cells #[.string pa, .slice pp pl pc] 43))
 have c1 := cel (hea w1 (.cells #[.string pa, .slice pp pl pc] 43) _ rfl)
 obtain ⟨W, hW⟩ : ∃ W, W = w1.alloc (.cells #[.string pa, .slice pp pl pc] 43) := ⟨_, rfl⟩
 rw [← hW] at c0 c1 ⊢
 have HWE := hid hW
 have HB1 := hid hb1
 clear q0 hb1 hW
 go_region
 all_goals
  go_wp2_with fail
  refine bodyPost_ret (v := .tuple #[.agg #[.string pa, .slice pp pl pc], .bool false]) (by simp [results, Tryz.results25, go_sem, c0.1, c0.2.1]) rfl ?_
  go_light
  have hcl := reu HB1.out (.cells #[.string pa, .slice pp pl pc] 43) (.string pa) (.slice pp pl pc)
  rw [← HWE.out] at hcl
  exact tre hpl (below_same hcl)
theorem l2Term_any (s : ByteArray) (hs : s.size ≤ 400000000) (w : World) : Calls Tryz.prog 25 #[.string s] w (Tre (ter s) w) := by
 cases hp : parse s with
 | none =>
  have e : ter s = none := by rw [ter, hp]
  rw [e]; exact l2Term_none s hs w hp
 | some t =>
  by_cases hk : t.srt = none
  ·have e : ter s = none := by rw [ter, hp]; simp [hk]
   rw [e]; exact l2Term_no s hs w t hp hk
  ·exact l2Term_yes s hs w t hp hk
end Go.Proofs.YtfogjomebcponaaGreatDoor
