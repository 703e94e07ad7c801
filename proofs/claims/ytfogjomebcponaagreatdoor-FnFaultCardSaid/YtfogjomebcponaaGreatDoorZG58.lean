/- Merged: DrwOdd, DrwOdx, DrwYTFault. -/
import Derived.Test.YtfogjomebcponaaGreatDoorZG55
import Derived.Test.YtfogjomebcponaaGreatDoorZGc12
import Derived.Test.YtfogjomebcponaaGreatDoorZG37
namespace Go.Proofs.YtfogjomebcponaaGreatDoor
open Go.RowKit
set_option maxRecDepth 100000
set_option maxHeartbeats 8000000
mutual
theorem swap_len (f : List UInt8) (to : Tree) : ∀ t : Tree, (Tree.swap f to t).write.length ≤ t.write.length + t.size * to.write.length ∧ (Tree.swap f to t).wt ≤ t.wt + t.size * to.wt
 | .atom s => by
  rw [Tree.swap, Tree.size]
  split
  ·exact ⟨by omega, by omega⟩
  ·exact ⟨by omega, by omega⟩
 | .node [] => by
  rw [Tree.swap, Tree.swaps]
  exact ⟨by omega, by omega⟩
 | .node (p :: ps) => by
  have h1 := swap_len f to p
  have h2 := swaps_len f to ps
  rw [Tree.swap, Tree.swaps, Tree.write, Tree.write, Tree.size, Tree.sizes, Tree.wt, Tree.wt, Tree.wts, Tree.wts, Nat.add_mul, Nat.add_mul]
  simp only [List.length_cons, List.length_append, List.length_nil]
  exact ⟨by omega, by omega⟩
theorem swaps_len (f : List UInt8) (to : Tree) : ∀ ps : List Tree, (Tree.writes (Tree.swaps f to ps)).length ≤ (Tree.writes ps).length + Tree.sizes ps * to.write.length ∧ Tree.wts (Tree.swaps f to ps) ≤ Tree.wts ps + Tree.sizes ps * to.wt
 | [] => by rw [Tree.swaps]; exact ⟨by omega, by omega⟩
 | p :: ps => by
  have h1 := swap_len f to p
  have h2 := swaps_len f to ps
  rw [Tree.swaps, Tree.writes, Tree.writes, Tree.sizes, Tree.wts, Tree.wts, Nat.add_mul, Nat.add_mul]
  simp only [List.length_cons, List.length_append]
  exact ⟨by omega, by omega⟩
end
def toL : List ByteArray := [⟨#[97]⟩, ⟨#[49]⟩, ⟨#[120]⟩, ⟨#[98]⟩, ⟨#[102, 115, 116]⟩, ⟨#[114, 101, 116, 117, 114, 110]⟩, ⟨#[40, 116, 104, 117, 110, 107, 32, 40, 114, 101, 116, 117, 114, 110, 32, 48, 41, 41]⟩, ⟨#[107, 51]⟩]
theorem toL_parse : ∀ s ∈ toL, s.size ≤ 18 ∧ ∃ t, parse s = some t := by
 intro s hs
 have key : ∀ s ∈ toL, (parse s).isSome = true := by
  intro s hs
  simp only [toL, List.mem_cons, List.mem_nil_iff, or_false] at hs
  rcases hs with rfl | rfl | rfl | rfl | rfl | rfl | rfl | rfl <;> kernel_rfl
 refine ⟨?_, Option.isSome_iff_exists.1 (key s hs)⟩
 simp only [toL, List.mem_cons, List.mem_nil_iff, or_false] at hs
 rcases hs with rfl | rfl | rfl | rfl | rfl | rfl | rfl | rfl <;> decide
theorem toL_lit {w : World} {g : Nat} (h : w.heap.size = g) : SV (w.alloc (.cells #[.string ⟨#[97]⟩, .string ⟨#[49]⟩, .string ⟨#[120]⟩, .string ⟨#[98]⟩, .string ⟨#[102, 115, 116]⟩, .string ⟨#[114, 101, 116, 117, 114, 110]⟩, .string ⟨#[40, 116, 104, 117, 110, 107, 32, 40, 114, 101, 116, 117, 114, 110, 32, 48, 41, 41]⟩, .string ⟨#[107, 51]⟩] 9)) (some ⟨g, 0, none⟩) 8 8 toL := by subst h; exact sv_lit w toL 8 8 9 rfl
def endL : List ByteArray := [⟨#[32]⟩, ⟨#[41]⟩, ⟨#[]⟩]
theorem endL_small : ∀ s ∈ endL, s.size ≤ 1 := by intro s hs; simp only [endL, List.mem_cons, List.mem_nil_iff, or_false] at hs; rcases hs with rfl | rfl | rfl <;> decide
theorem endL_lit {w : World} {g : Nat} (h : w.heap.size = g) : SV (w.alloc (.cells #[.string ⟨#[32]⟩, .string ⟨#[41]⟩, .string ⟨#[]⟩] 9)) (some ⟨g, 0, none⟩) 3 3 endL := by subst h; exact sv_lit w endL 3 3 9 rfl
theorem empty_row (w : World) : (w.alloc (.cells #[] 9)).ownsRow w.heap.size 9 1 (.slice (some ⟨w.heap.size, 0, none⟩) 0 0) 0 (([] : List ByteArray).map Value.string) := own_empty w w.heap.size (Nat.le_refl _)
theorem l91Tree_any (s : ByteArray) (hs : s.size ≤ 18) {t : Tree} (hp : parse s = some t) (w : World) : Calls Tryz.prog 78 #[.string s] w fun e w' => ∃ h : Hd, e = .returned (.agg #[.string h.a, .slice h.p h.l h.c]) ∧ TIn w' (fun b => w.heap.size ≤ b) t h ∧ Below w.heap.size w w' := by
 have HC := hid (fun W => lpa s (by omega) W)
 rw [hp] at HC
 go_enter Tryz.func78, Tryz.ntmps78
 go_wp2_with fail
 go_at_call 54
 refine (HC.out _).mono ?_
 rintro e w1 hp1
 obtain ⟨a, p, l, c, rfl, hb1, ht1⟩ := hp1.some
 have HT := hid ht1
 have HB := hid hb1
 have hr2 : w1.heap[w.heap.size]? = some (.cells #[.string ⟨#[]⟩, .slice none 0 0] 43 (0, 0)) := (hb1.block _ (by simp)).trans (hea w _ _ rfl)
 have HR2 := hid hr2
 obtain ⟨⟨r0, r1⟩, ⟨fr0, fr1⟩, l5⟩ := box2g hr2
 have hws : w.heap.size < w1.heap.size := by have := hb1.size; simp at this; omega
 clear hp1 ht1 hb1 hr2
 go_wp2_with fail
 have hres := pai (par (u := .slice p l c) (pae (u := .string a) HR2.out)) (.cells #[.string a, .slice p l c] 43)
 obtain ⟨g0, g1, _, _⟩ := cel hres
 refine bodyPost_ret (v := .agg #[.string a, .slice p l c]) (by simp [results, Tryz.results78, go_sem, g0, g1]) rfl ?_
 have hz : ((w1.setCell ⟨w.heap.size, 0, none⟩ (.string a)).setCell ⟨w.heap.size, 1, none⟩ (.slice p l c)).heap.size = w1.heap.size := by simp [World.setCell]
 refine ⟨⟨a, p, l, c⟩, rfl, ?_, ?_⟩
 ·refine HT.out.keep (fun k hk hl => ?_) (fun k hk _ => by simp at hk; omega)
  have hk2 : w.heap.size + 1 ≤ k := by simpa using hk
  exact (heap_alloc_old _ _ (by rw [hz]; exact hl)).trans ((Below.heap_setCell (w1.setCell ⟨w.heap.size, 0, none⟩ (.string a)) ⟨w.heap.size, 1, none⟩ _ k (by show k ≠ w.heap.size; omega)).trans (Below.heap_setCell w1 ⟨w.heap.size, 0, none⟩ _ k (by show k ≠ w.heap.size; omega)))
 ·have h1 : Below w.heap.size w w1 := ((Below.refl _ _).alloc (Nat.le_refl _) _).trans (HB.out.mono (by simp))
  exact (show Below w.heap.size w ((w1.setCell ⟨w.heap.size, 0, none⟩ (.string a)).setCell ⟨w.heap.size, 1, none⟩ (.slice p l c)) from (h1.setCell (Nat.le_refl _) _).setCell (Nat.le_refl _) _).alloc (by rw [hz]; omega) _
theorem pickM_any {w : World} {b q : Nat} (hr : Rd w b q) (hq : q ≤ 1099511627776) (n : Nat) (h1 : 1 ≤ n) (h2 : n ≤ 100000) (m : Int) (hm : m = (n : Int)) :
    Calls Tryz.prog 41 #[.pointer (some ⟨b, 0, none⟩), .int .i64 m] w fun e w' => ∃ k : Nat, e = .returned (.int .i64 (k : Int)) ∧ k < n ∧ Rd w' b (q + 1) ∧ Px b w w' := by
 subst hm
 refine (pic hr hq (n : Int) (by omega)).mono ?_
 rintro e w' ⟨x, rfl, h0, hx, _, hr', hp'⟩
 have hxn := hx (by omega)
 obtain ⟨k, rfl⟩ := Int.eq_ofNat_of_zero_le h0
 exact ⟨k, rfl, by omega, hr', hp'⟩
theorem atoms_ne {w : World} {S : Nat → Prop} {t : Tree} {h : Hd} (ht : TIn w S t h) : ∀ s ∈ t.atoms, s.size ≠ 0 := by
 induction ht with
 | atom a hne hm => intro s hs; rw [Tree.atoms] at hs; simp at hs; subst hs; exact hne
 | node ps b cap A hp hl hc hS hA hB hps ih =>
  intro s hs
  rw [Tree.atoms] at hs
  have key : ∀ (qs : List Tree), (∀ p ∈ qs, ∀ s ∈ p.atoms, s.size ≠ 0) → ∀ s ∈ Tree.atomsL qs, s.size ≠ 0 := by
   intro qs
   induction qs with
   | nil => intro _ s hs; rw [Tree.atomsL] at hs; cases hs
   | cons q qs ihq =>
    intro hq s hs
    rw [Tree.atomsL] at hs
    rcases List.mem_append.1 hs with hs | hs
    ·exact hq q (List.mem_cons_self ..) s hs
    ·exact ihq (fun p hp => hq p (List.mem_cons_of_mem _ hp)) s hs
  refine key ps (fun p hpm => ?_) s hs
  obtain ⟨i, hi⟩ := List.getElem?_of_mem hpm
  exact ih i p hi
theorem below_grown {w W w4 : World} {r : Option Nat} (hb : Below w.heap.size w W) (hg : W.grownBy w4 r) (hr : ∀ k, r = some k → w.heap.size ≤ k) : Below w.heap.size w w4 :=
 ⟨hg.os.trans hb.os, hg.tape.trans hb.tape, hg.output.trans hb.output, Nat.le_trans hb.size hg.size, fun k hk => (hg.block k (Nat.lt_of_lt_of_le hk hb.size) (fun e => by have := hr k e.symm; omega)).trans (hb.block k hk)⟩
theorem l91Odd_any {S : Nat} (hS : S = 60000000) {w : World} {b q : Nat} (hr : Rd w b q) (hq : q + S + 100 ≤ 400000000) : Calls Tryz.prog 39 #[.pointer (some ⟨b, 0, none⟩)] w (Drawn b (q + S + 100) (S + 10) w) := by
 have HR0 := hid hr
 have HS0 := hid hS
 have hSb : S ≤ 60000000 := by omega
 have hSc : 100000 ≤ S := by omega
 clear hr hS
 go_enter Tryz.func39, Tryz.ntmps39
 go_wp2_with fail
 go_at_call 75
 refine (l91Good_any HS0.out HR0.out (by omega)).mono ?_
 rintro e w1 ⟨s, rfl, hs, hr1, hp1⟩
 have HR1 := hid hr1
 have HX1 := hid hp1
 have HS1 := hid hs
 have hsz : s.size ≤ 400000000 := by omega
 clear hr1 hp1 hs
 go_wp2_with fail
 go_at_call 41
 refine (pickN_any HR1.out (by omega) 4 (by decide) (by decide) _ rfl).mono ?_
 rintro e w2 ⟨x, rfl, hx, hr2, hp2⟩
 have HR2 := hid hr2
 have HX2 := hid (HX1.out.trans hp2)
 clear hr2 hp2
 by_cases hx0 : x = 0
 case neg =>
  have hx1 : (0 : Int) < (x : Int) := by omega
  go_wp2_with fail
  go_ret
  exact ⟨_, rfl, by have := HS1.out; omega, HR2.out.le (by omega), HX2.out⟩
 subst hx0
 have HTC := hid (fun W => l2Term_any s hsz W)
 cases htt : ter s with
 | none =>
  rw [htt] at HTC
  clear htt
  go_wp2_with fail
  go_at_call 25
  refine (HTC.out _).mono ?_
  rintro e w3 hp3
  obtain ⟨a, p, l, c, rfl, _, hb3⟩ := hp3.none
  have HR3 := hid (HR2.out.below hb3 HR2.out.lt (Nat.le_refl _))
  have HX3 := hid (HX2.out.trans (Px.below hb3 (Nat.le_refl _)))
  clear hp3 hb3
  go_wp2_with fail
  go_ret
  exact ⟨_, rfl, by have := HS1.out; omega, (HR3.out.alloc _).le (by omega), HX3.out.alloc _⟩
 | some t =>
  obtain ⟨hpt, hsrt, hts, m, hm, htm⟩ := termTree_some htt
  have hwt := pas hpt
  have hwl := (parse_wk hpt).2.2
  rw [htt] at HTC
  have hat := atoms_len t
  have htp : 1 ≤ t.size := by rw [tm_size t [] m htm]; exact tm_size_pos m
  clear htt hpt hsrt hm htm
  go_wp2_with fail
  go_at_call 25
  refine (HTC.out _).mono ?_
  rintro e w3 hp3
  obtain ⟨a, p, l, c, rfl, hb3, ht3⟩ := hp3.some
  have HR3 := hid (HR2.out.below hb3 HR2.out.lt (Nat.le_refl _))
  have HX3 := hid (HX2.out.trans (Px.below hb3 (Nat.le_refl _)))
  have HT3 := hid ht3
  have HSZ3 := hid hb3.size
  have HLB := hid (show b < w2.heap.size from HR2.out.lt)
  clear hp3 hb3 ht3
  go_wp2_with fail
  have hzb : (w3.alloc (.cells #[.string a, .slice p l c] 43)).heap.size = w3.heap.size + 1 := by simp
  have HTB := hid (show TIn (w3.alloc (.cells #[.string a, .slice p l c] 43)) (fun k => w2.heap.size ≤ k) t ⟨a, p, l, c⟩ from HT3.out.keep (fun k _ hl => heap_alloc_old w3 _ hl) (fun _ hk _ => hk))
  have HBX := hid (hea w3 (.cells #[.string a, .slice p l c] 43) _ rfl)
  have HOE := empty_row (w3.alloc (.cells #[.string a, .slice p l c] 43))
  rw [hzb] at HOE
  have HKA := hid (show Kept (w3.alloc (.cells #[.string a, .slice p l c] 43)) ((w3.alloc (.cells #[.string a, .slice p l c] 43)).alloc (.cells #[] 9)) from (Kept.refl _).alloc (Nat.le_refl _) _)
  have HNE := hid (atoms_ne HT3.out)
  have hbs : w2.heap.size ≤ w3.heap.size := HX3.out.size |> fun _ => by have := HT3.out; exact HSZ3.out
  go_at_call 76
  refine (l7Atoms_any HTB.out (by omega) (by omega) [] (some ⟨w3.heap.size + 1, 0, none⟩) 0 0 (w3.heap.size + 1) _ HKA.out (by simp) (by simp) (by simp) HOE (by omega)).mono ?_
  rintro e w4 ⟨q4, c4, rfl, ho4, hg4, hob4⟩
  rw [List.nil_append] at ho4 hob4
  have HB34 := hid (show Below (w3.heap.size + 1) (w3.alloc (.cells #[.string a, .slice p l c] 43)) w4 from by
   have h := below_grown (w := (w3.alloc (.cells #[.string a, .slice p l c] 43))) (W := (w3.alloc (.cells #[.string a, .slice p l c] 43)).alloc (.cells #[] 9)) ((Below.refl _ _).alloc (Nat.le_refl _) _) hg4 (fun k e => by simp [Value.ownBlock] at e; rw [hzb]; omega)
   rw [hzb] at h; exact h)
  have HLO := hid ho4.lt
  have HV4 := hid (vals_any ho4)
  have HR4 := hid ((HR3.out.alloc (.cells #[.string a, .slice p l c] 43)).below HB34.out (by have := HR3.out.lt; omega) (by rw [hzb]; exact Nat.le_refl _))
  have HX4 := hid ((HX3.out.alloc (.cells #[.string a, .slice p l c] 43)).trans (Px.below (b := b) HB34.out (by rw [hzb]; exact Nat.le_refl _)))
  have HT4 := hid (HTB.out.keep (fun k _ hl => HB34.out.block k (by rw [hzb] at hl; exact hl)) (fun _ hk _ => hk))
  have HBX4 := hid ((HB34.out.block w3.heap.size (by omega)).trans HBX.out)
  clear ho4 hg4 hob4 HOE
  rw [show (([] : List ByteArray) ++ t.atoms).length = t.size from hat]
  go_wp2_with fail
  go_at_call 41
  refine (pickM_any HR4.out (by omega) t.size htp (by omega) _ rfl).mono ?_
  rintro e w5 ⟨k, rfl, hk, hr5, hp5⟩
  obtain ⟨f, hf⟩ : ∃ f, t.atoms[k]? = some f := ⟨_, List.getElem?_eq_getElem (by rw [hat]; exact hk)⟩
  obtain ⟨g4, o4, hgo, hcf⟩ := HV4.out k (.string f) (by rw [List.getElem?_map, hf]; rfl)
  subst hgo
  have hc5 := hp5.cell (rd_ne1 HR4.out hcf) hcf
  have HF := hid (HNE.out f (List.mem_of_getElem? hf))
  have HR5 := hid hr5
  have HX5 := hid (HX4.out.trans hp5)
  have HNB := hid (show w3.heap.size ≠ b from by have := HLB.out; have := HSZ3.out; omega)
  have HT5 := hid (HT4.out.keep (fun k hk hl => hp5.block k hl (by have := HLB.out; omega)) (fun _ hk _ => hk))
  have HBX5 := hid ((hp5.block w3.heap.size (lt_of_block HBX4.out) HNB.out).trans HBX4.out)
  clear hr5 hp5 hcf hf
  go_wp2_with fail
  go_at_call 40
  refine (rof_mem (HR5.out.alloc _) (by omega) w5.heap.size 8 8 toL (toL_lit rfl) (by omega) (by omega) (by have := HR5.out.lt; omega)).mono ?_
  rintro e w6 ⟨s6, hs6, rfl, hr6, hp6⟩
  obtain ⟨hz6, T6, hT6⟩ := toL_parse s6 hs6
  have HP6 := hid hT6
  have HR6 := hid hr6
  have HX6 := hid ((HX5.out.alloc _).trans hp6)
  have hpx := ((Px.refl b w5).alloc (.cells #[.string ⟨#[97]⟩, .string ⟨#[49]⟩, .string ⟨#[120]⟩, .string ⟨#[98]⟩, .string ⟨#[102, 115, 116]⟩, .string ⟨#[114, 101, 116, 117, 114, 110]⟩, .string ⟨#[40, 116, 104, 117, 110, 107, 32, 40, 114, 101, 116, 117, 114, 110, 32, 48, 41, 41]⟩, .string ⟨#[107, 51]⟩] 9)).trans hp6
  have HT6 := hid (HT5.out.keep (fun k hk hl => hpx.block k hl (by have := HLB.out; omega)) (fun _ hk _ => hk))
  have hbx6 := (hpx.block w3.heap.size (lt_of_block HBX5.out) HNB.out).trans HBX5.out
  have HBX6 := hid hbx6
  obtain ⟨⟨bx0, bx1⟩, _, _⟩ := box2g hbx6
  have HD6 := hid (show Below w6.heap.size w6 w6.drew from (Below.refl _ _).drew)
  obtain ⟨⟨by0, by1⟩, _, _⟩ := box2g ((HD6.out.block _ (lt_of_block hbx6)).trans hbx6)
  have HWT6 := hid (pas hT6)
  have HWL6 := hid (show T6.write.length ≤ 18 from by have h := parse_write hT6; rw [← h]; exact hz6)
  have HTD := hid (HT6.out.keep (w' := w6.drew) (fun k _ hl => HD6.out.block k hl) (fun _ hk _ => hk))
  have HTC7 := hid (l91Tree_any s6 hz6 hT6 w6.drew)
  have HSL := hid (swap_len f.toList T6 t)
  have hx6 : Px b w w6 := HX6.out
  have hsz6 := HSZ3.out
  clear hr6 hp6 hpx hs6 hT6 hbx6 hc5 hsz6 hx6
  go_wp2_with fail
  go_region_with (first
   | (have _ := HB8
      go_at_call 71
      refine (l1Text_big HT8.out (by have h1 := HSL.out.1; have h2 := HWL6.out; have h3 := Nat.mul_le_mul hts h2; omega) (by have h1 := HSL.out.2; have h2 := HWT6.out; have h3 := Nat.mul_le_mul hts h2; omega) _ (Kept.refl _) (Nat.le_refl _)).mono ?_
      rintro e w9 ⟨rfl, hb9⟩
      have HB9 := hid (HB8.out.trans (hb9.mono HB8.out.size))
      clear hb9)
   | (have _ := HB7
      go_at_call 77
      refine (l91Swap_any f HT7.out HTA.out HF.out (by omega) w7 (Kept.refl _) (Nat.le_refl _)).mono ?_
      rintro e w8 ⟨⟨a8, p8, l8, c8⟩, rfl, ht8, hb8⟩
      have HT8 := hid ht8
      have HB8 := hid (HB7.out.trans (hb8.mono HB7.out.size))
      clear ht8 hb8)
   | (go_at_call 78
      refine HTC7.out.mono ?_
      rintro e w7 ⟨⟨a7, p7, l7, c7⟩, rfl, ht7, hb7⟩
      have HT7 := hid ht7
      have HTA := hid (HTD.out.keep (fun k _ hl => hb7.block k hl) (fun _ hk _ => hk))
      have HB7 := hid (HD6.out.trans (hb7.mono HD6.out.size))
      obtain ⟨⟨bz0, bz1⟩, _, _⟩ := box2g ((HB7.out.block _ (lt_of_block HBX6.out)).trans HBX6.out)
      clear ht7 hb7))
  all_goals
   have hz9 : ((Tree.swap f.toList T6 t).txt).size ≤ 40000 := by
    have h0 : ((Tree.swap f.toList T6 t).txt).size = (Tree.swap f.toList T6 t).write.length := by simp [Tree.txt, ByteArray.size]
    have h1 := HSL.out.1
    have h2 := HWL6.out
    have h3 := Nat.mul_le_mul hts h2
    omega
   obtain ⟨U, hU⟩ : ∃ U, (Tree.swap f.toList T6 t).txt = U := ⟨_, rfl⟩
   rw [hU] at hz9
   have HUE := hid hU
   have HR9 := hid (HR6.out.below HB9.out HR6.out.lt (Nat.le_refl _))
   have HX9 := hid (HX6.out.trans (Px.below HB9.out (Nat.le_refl _)))
   clear hU
   go_wp2_with fail
   rw [HUE.out]
   go_at_call 41
   refine (pickN_any HR9.out (by omega) 8 (by decide) (by decide) _ rfl).mono ?_
   rintro e w10 ⟨y, rfl, hy, hr10, hp10⟩
   have HR10 := hid hr10
   have HX10 := hid (HX9.out.trans hp10)
   clear hr10 hp10
   by_cases hy0 : y = 0
   ·subst hy0
    go_wp2_with fail
    go_at_call 40
    refine (rof (HR10.out.alloc _) (by omega) w10.heap.size 3 3 1 endL (endL_lit rfl) (by omega) (by omega) (by have := HR10.out.lt; omega) endL_small).mono ?_
    rintro e w11 ⟨s11, rfl, hs11, hr11, hp11⟩
    have hz11 : s11.size ≤ 1 := hs11
    have HR11 := hid hr11
    have HX11 := hid ((HX10.out.alloc _).trans hp11)
    clear hr11 hp11 hs11
    go_wp2_with fail
    go_ret
    exact ⟨_, rfl, by rw [ByteArray.size_append]; omega, HR11.out.le (by omega), HX11.out⟩
   ·have hy1 : ((y : Int) == 0) = false := beq_eq_false_iff_ne.2 (by omega)
    go_wp2_with fail
    go_ret
    exact ⟨_, rfl, by omega, HR10.out.le (by omega), HX10.out⟩
def bdL : List ByteArray := [⟨#[40, 102, 111, 114, 99, 101, 32, 48, 41]⟩, ⟨#[40, 102, 115, 116, 32, 40, 114, 101, 116, 117, 114, 110, 32, 48, 41, 41]⟩, ⟨#[40, 97, 112, 112, 32, 40, 114, 101, 116, 117, 114, 110, 32, 49, 41, 32, 48, 41]⟩, ⟨#[40, 105, 102, 32, 40, 112, 97, 105, 114, 32, 48, 32, 49, 41, 32, 40, 114, 101, 116, 117, 114, 110, 32, 48, 41, 32, 40, 114, 101, 116, 117, 114, 110, 32, 49, 41, 41]⟩, ⟨#[40, 115, 112, 108, 105, 116, 32, 48, 32, 120, 32, 121, 32, 40, 114, 101, 116, 117, 114, 110, 32, 120, 41, 41]⟩, ⟨#[40, 115, 110, 100, 32, 40, 108, 97, 109, 32, 120, 32, 98, 32, 40, 114, 101, 116, 117, 114, 110, 32, 120, 41, 41, 41]⟩, ⟨#[40, 116, 111, 32, 40, 108, 97, 109, 32, 120, 32, 98, 32, 40, 114, 101, 116, 117, 114, 110, 32, 120, 41, 41, 32, 121, 32, 40, 114, 101, 116, 117, 114, 110, 32, 121, 41, 41]⟩, ⟨#[40, 112, 117, 116, 32, 40, 116, 104, 117, 110, 107, 32, 40, 114, 101, 116, 117, 114, 110, 32, 48, 41, 41, 32, 40, 114, 101, 116, 117, 114, 110, 32, 49, 41, 41]⟩, ⟨#[40, 116, 114, 121, 32, 40, 114, 101, 116, 117, 114, 110, 32, 48, 41, 32, 40, 114, 101, 116, 117, 114, 110, 32, 40, 112, 97, 105, 114, 32, 48, 32, 49, 41, 41, 41]⟩]
theorem bdL_small : ∀ s ∈ bdL, s.size ≤ 40 := by intro s hs; simp only [bdL, List.mem_cons, List.mem_nil_iff, or_false] at hs; rcases hs with rfl | rfl | rfl | rfl | rfl | rfl | rfl | rfl | rfl <;> decide
theorem bdL_lit {w : World} {g : Nat} (h : w.heap.size = g) : SV (w.alloc (.cells #[.string ⟨#[40, 102, 111, 114, 99, 101, 32, 48, 41]⟩, .string ⟨#[40, 102, 115, 116, 32, 40, 114, 101, 116, 117, 114, 110, 32, 48, 41, 41]⟩, .string ⟨#[40, 97, 112, 112, 32, 40, 114, 101, 116, 117, 114, 110, 32, 49, 41, 32, 48, 41]⟩, .string ⟨#[40, 105, 102, 32, 40, 112, 97, 105, 114, 32, 48, 32, 49, 41, 32, 40, 114, 101, 116, 117, 114, 110, 32, 48, 41, 32, 40, 114, 101, 116, 117, 114, 110, 32, 49, 41, 41]⟩, .string ⟨#[40, 115, 112, 108, 105, 116, 32, 48, 32, 120, 32, 121, 32, 40, 114, 101, 116, 117, 114, 110, 32, 120, 41, 41]⟩, .string ⟨#[40, 115, 110, 100, 32, 40, 108, 97, 109, 32, 120, 32, 98, 32, 40, 114, 101, 116, 117, 114, 110, 32, 120, 41, 41, 41]⟩, .string ⟨#[40, 116, 111, 32, 40, 108, 97, 109, 32, 120, 32, 98, 32, 40, 114, 101, 116, 117, 114, 110, 32, 120, 41, 41, 32, 121, 32, 40, 114, 101, 116, 117, 114, 110, 32, 121, 41, 41]⟩, .string ⟨#[40, 112, 117, 116, 32, 40, 116, 104, 117, 110, 107, 32, 40, 114, 101, 116, 117, 114, 110, 32, 48, 41, 41, 32, 40, 114, 101, 116, 117, 114, 110, 32, 49, 41, 41]⟩, .string ⟨#[40, 116, 114, 121, 32, 40, 114, 101, 116, 117, 114, 110, 32, 48, 41, 32, 40, 114, 101, 116, 117, 114, 110, 32, 40, 112, 97, 105, 114, 32, 48, 32, 49, 41, 41, 41]⟩] 9)) (some ⟨g, 0, none⟩) 9 9 bdL := by subst h; exact sv_lit w bdL 9 9 9 rfl
theorem cases8 {x : Int} (h0 : 0 ≤ x) (h1 : x < 8) : x = 0 ∨ x = 1 ∨ x = 2 ∨ (x = 3 ∨ x = 4 ∨ x = 5 ∨ x = 6 ∨ x = 7) := by omega
theorem cases4 {x : Int} (h0 : 0 ≤ x) (h1 : x < 4) : x = 0 ∨ x = 1 ∨ x = 2 ∨ x = 3 := by omega
theorem sort_two (s : ByteArray) : ((sortOf s).toList == [99, 111, 109, 112, 117, 116, 97, 116, 105, 111, 110]) = true ∨ ((sortOf s).toList == [99, 111, 109, 112, 117, 116, 97, 116, 105, 111, 110]) = false := by cases ((sortOf s).toList == [99, 111, 109, 112, 117, 116, 97, 116, 105, 111, 110]) <;> simp
theorem drawTermFault_any {S : Nat} (hS : S = 60000000) {w : World} {p : Option Addr} {n c : Nat} {zs : List Int} (hl : zs.length = n) (hn : n ≤ 100000000) (hz : ∀ z ∈ zs, 0 ≤ z ∧ z ≤ 255) (hp : ∀ g o s, p = some ⟨g, o, s⟩ → n = 0 ∨ g < w.heap.size) (hv : Vals w p (u8s zs)) (hc : n ≤ c) :
    Calls Tryz.prog 17 #[.slice p n c] w fun e w' => ∃ s : ByteArray, e = .returned (.string s) ∧ s.size ≤ S + 100 ∧ Below w.heap.size w w' := by
 have HO := hid (open_any hl hn hz hp hv hc)
 clear hl hz hp hv
 obtain ⟨b, hb⟩ : ∃ b, w.heap.size = b := ⟨_, rfl⟩
 go_enter Tryz.func17, Tryz.ntmps17
 go_wp2_with fail
 go_at_call 38
 refine HO.out.mono ?_
 rintro e w1 ⟨rfl, hr1, hb1⟩
 rw [hb] at hr1 hb1 ⊢
 have HBE := hid hb
 clear hb
 have HB1 := hid hb1
 have HR1 := hid hr1
 clear hr1 hb1
 go_wp2_with fail
 go_at_call 39
 refine (l91Odd_any hS HR1.out (by omega)).mono ?_
 rintro e w2 ⟨s2, rfl, hs2, hr2, hp2⟩
 have HX2 := hid hp2
 have HR2 := hid hr2
 have HS2 := hid hs2
 have hz2 : s2.size ≤ 100000000 := by omega
 clear hr2 hp2 hs2
 go_wp2_with fail
 go_at_call 40
 refine (rof (HR2.out.alloc _) (by omega) w2.heap.size 9 9 40 bdL (bdL_lit rfl) (by omega) (by omega) (by have := HR2.out.lt; omega) bdL_small).mono ?_
 rintro e w3 ⟨s3, rfl, hs3, hr3, hp3⟩
 have HX3 := hid ((HX2.out.alloc _).trans hp3)
 have HS3 := hid hs3
 have HR3 := hid hr3
 have hz3 : s3.size ≤ 40 := hs3
 clear hr3 hp3 hs3
 go_wp2_with fail
 go_at_call 41
 refine (pic HR3.out (by omega) 8 (by omega)).mono ?_
 rintro e w4 ⟨x4, rfl, hx4a, hx4b, _, hr4, hp4⟩
 have hx4c : x4 < 8 := hx4b (by decide)
 have HX4 := hid (HX3.out.trans hp4)
 have HR4 := hid hr4
 clear hr4 hp4 hx4b
 have hcs := cases8 hx4a hx4c
 clear hx4a hx4c
 have HSO := hid (fun W => specTermSort_any s2 (by omega) W)
 have hst := sort_two s2
 obtain ⟨Z, hZ⟩ : ∃ Z, sortOf s2 = Z := ⟨_, rfl⟩
 rw [hZ] at HSO hst
 clear hZ
 rcases hcs with rfl | rfl | rfl | hcs
 ·go_wp2_with fail
  go_ret
  exact ⟨_, rfl, by have := HS2.out; have := HS3.out; first | omega | (simp only [ByteArray.size_append, bsz]; simp; omega), by rw [HBE.out]; exact HB1.out.trans (HX4.out.to_below (Nat.le_refl _) (by have := HR1.out.lt; omega))⟩
 ·go_wp2_with fail
  go_ret
  exact ⟨_, rfl, by have := HS2.out; have := HS3.out; first | omega | (simp only [ByteArray.size_append, bsz]; simp; omega), by rw [HBE.out]; exact HB1.out.trans (HX4.out.to_below (Nat.le_refl _) (by have := HR1.out.lt; omega))⟩
 ·go_wp2_with fail
  go_ret
  exact ⟨_, rfl, by have := HS2.out; have := HS3.out; first | omega | (simp only [ByteArray.size_append, bsz]; simp; omega), by rw [HBE.out]; exact HB1.out.trans (HX4.out.to_below (Nat.le_refl _) (by have := HR1.out.lt; omega))⟩
 ·have HX5' := hid HX4.out
  have t0 : ¬ 9223372036854775807 < 4 + s3.size := by omega
  have t1 : ¬ 9223372036854775807 < 4 + s3.size + 11 := by omega
  have t2 : ¬ 9223372036854775807 < 4 + s3.size + 11 + s2.size := by omega
  have t3 : ¬ 9223372036854775807 < 4 + s3.size + 11 + s2.size + 2 := by omega
  have t4 : ¬ 9223372036854775807 < 6 + s2.size := by omega
  have t5 : ¬ 9223372036854775807 < 6 + s2.size + 1 := by omega
  have t6 : ¬ 9223372036854775807 < 6 + s2.size + 1 + s3.size := by omega
  have t7 : ¬ 9223372036854775807 < 6 + s2.size + 1 + s3.size + 1 := by omega
  have t8 : ¬ 9223372036854775807 < 6 + s3.size := by omega
  have t9 : ¬ 9223372036854775807 < 6 + s3.size + 1 := by omega
  have t10 : ¬ 9223372036854775807 < 6 + s3.size + 1 + s2.size := by omega
  have t11 : ¬ 9223372036854775807 < 6 + s3.size + 1 + s2.size + 1 := by omega
  have t12 : ¬ 9223372036854775807 < 4 + s3.size + 3 := by omega
  have t13 : ¬ 9223372036854775807 < 4 + s3.size + 3 + s2.size := by omega
  have t14 : ¬ 9223372036854775807 < 4 + s3.size + 3 + s2.size + 1 := by omega
  have h40 : (s3.size : Int) ≤ 40 := by omega
  rcases hst with hst | hst
  all_goals
   rcases hcs with rfl | rfl | rfl | rfl | rfl
  all_goals
   go_wp2_with fail
   go_at_call 42
   refine (HSO.out _).mono ?_
   rintro e w5 ⟨rfl, hb5⟩
   have HX5 := hid (HX4.out.trans (Px.below hb5 (Nat.le_refl _)))
   have HR5 := hid (HR4.out.below hb5 HR4.out.lt (Nat.le_refl _))
   clear hb5
   first
    | (go_wp2_with fail
       go_ret
       exact ⟨_, rfl, by have := HS2.out; have := HS3.out; first | omega | (simp only [ByteArray.size_append, bsz]; simp; omega), by rw [HBE.out]; exact HB1.out.trans (HX5.out.to_below (Nat.le_refl _) (by have := HR1.out.lt; omega))⟩)
    | (go_wp2_with fail
       go_at_call 41
       refine (pic HR5.out (by omega) 4 (by omega)).mono ?_
       rintro e w6 ⟨x6, rfl, hx6a, hx6b, _, hr6, hp6⟩
       have hx6c : x6 < 4 := hx6b (by decide)
       have HX6 := hid (HX5.out.trans hp6)
       clear hr6 hp6 hx6b
       rcases cases4 hx6a hx6c with rfl | rfl | rfl | rfl
       all_goals
        go_wp2_with fail
        go_ret
        exact ⟨_, rfl, by have := HS2.out; have := HS3.out; first | omega | (simp only [ByteArray.size_append, bsz]; simp; omega), by rw [HBE.out]; exact HB1.out.trans (HX6.out.to_below (Nat.le_refl _) (by have := HR1.out.lt; omega))⟩)
end Go.Proofs.YtfogjomebcponaaGreatDoor
