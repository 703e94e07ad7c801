/- Merged: SizeP, SizeN, SizeT, SpecU0, PartT, FreeM. -/
import Derived.Test.YtnphopnhioogdaaDoorTU16
import Derived.Test.YtnphopnhioogdaaDoorTUSSortT0
import Derived.Test.YtnphopnhioogdaaDoorTU9
import Derived.Test.YtnphopnhioogdaaDoorTU11
import Derived.Test.YtnphopnhioogdaaDoorTU7
namespace Go.Proofs.YtnphopnhioogdaaDoor
open Go.RowKit

theorem termTree_none {s : ByteArray} (h : termTree s = none) : readTm s = none := by
  have h1 := termTree_read s
  rw [h] at h1
  cases hr : readTm s with
  | none => rfl
  | some m => rw [hr] at h1; simp at h1
theorem termTree_some {s : ByteArray} {t : Tree} (h : termTree s = some t) : parse s = some t ∧ t.srt ≠ none ∧ t.size ≤ 1500 ∧ ∃ m, readTm s = some m ∧ t.tm [] = some m := by
  have h1 := termTree_read s
  rw [h] at h1
  cases hr : readTm s with
  | none => rw [hr] at h1; simp at h1
  | some m =>
    obtain ⟨u, hp, hm, hs, _⟩ := readTm_inv hr
    unfold termTree at h
    rw [hp] at h; simp only at h
    split at h
    · rename_i hc; simp at h; subst h; exact ⟨hp, hc.1, hs, m, rfl, hm⟩
    · simp at h
end Go.Proofs.YtnphopnhioogdaaDoor

namespace Go.Proofs.YtnphopnhioogdaaDoor
open Go.RowKit

set_option maxRecDepth 100000 in
set_option maxHeartbeats 2000000 in
/-- THE PROGRAM's COUNT OF A TERM's ATOMS. -/
theorem size_any {w0 : World} {S : Nat → Prop} {m : Tm} {b : Nat} (hn : NIn w0 S m b) : m.size ≤ 400000000 → ∀ w, Kept w0 w → w0.heap.size ≤ w.heap.size →
    Calls Tryd.prog 51 #[.pointer (some ⟨b, 0, none⟩)] w fun e w' => e = .returned (.int .i64 (m.size : Int)) ∧ Below w.heap.size w w' := by
  induction hn with
  | mk hd a d bs ty ks b bp bl bc kp kl kc A hS hb hbl hkl hbn hbv hkv hks ih =>
   intro hsz w hk hw
   rw [Tm.size] at hsz
   have hlt0 := lt_of_block hb
   have c := cells_of_six ((hk b hlt0).trans hb)
   have HLT := hid (show b < w.heap.size by omega)
   have HKL := hid hkl
   have HBL := hid hbl
   have HKV := hid hkv
   have HIH := hid ih
   have HK := hid hk
   clear ih hk hb hbn hbv hS
   cases ty with
  | none =>
    have c4 := c.2.2.2.2.1
    have c3 := c.2.2.2.1
    have c5 := c.2.2.2.2.2.1
    clear c
    simp only [tyV] at c4
    have hsz2 : Tm.sizes ks ≤ 400000000 := by omega
    have hkl3 : kl ≤ 400000000 := by have := tmsizes_length ks; omega
    have hbl3 : bl ≤ 400000000 := by omega
    have HSZ := hid hsz
    clear hsz hbl hkl hks hkv
    go_enter Tryd.func51, Tryd.ntmps51
    go_wp2_with fail
    have hb1 := Below.refl w.heap.size w
    go_loopw [3, 29] (fun a u wr => ∃ i : Nat, i ≤ kl ∧ u = .int .i64 (i : Int) ∧ a = .int .i64 (1 + (bl : Int) + (Tm.sizes (ks.take i) : Int)) ∧ Below w.heap.size w wr) (fun _ u _ => kl - (intOf u).toNat)
    case atStart => exact ⟨0, Nat.zero_le _, rfl, by simp [Tm.sizes], hb1⟩
    case round =>
      obtain ⟨i, hi, rfl, rfl, hbel⟩ := hrel
      have hz := hbel.size
      have htk := tmsizes_take ks i
      by_cases hlt : i < kl
      · obtain ⟨k, hki⟩ : ∃ k, ks[i]? = some k := ⟨_, List.getElem?_eq_getElem (by rw [HKL.out]; exact hlt)⟩
        obtain ⟨g, rfl, _, hc⟩ := HKV.out i _ (ptrs_get A hlt)
        have hkw : Kept w0 wr := HK.out.below hbel (by omega)
        have hc' := hkw.cell hc
        have HC := hid (HIH.out i k hki (by have := tmsizes_snoc ks i k hki; have := tmsizes_take ks (i + 1); omega) wr hkw (by omega))
        have hsn := tmsizes_snoc ks i k hki
        have htk2 := tmsizes_take ks (i + 1)
        have hbd : Tm.sizes (ks.take i) + k.size ≤ 400000000 := by omega
        have HSN := hid hsn
        clear hc hki hsn htk2 hkw c5
        go_wp2_with (go_at_call 51; refine HC.out.mono ?_; rintro e w2 ⟨rfl, hb2⟩)
        go_roundw
        case rel => exact ⟨i + 1, by omega, by go_num, by rw [HSN.out]; go_num, hbel.trans (hb2.mono (by omega))⟩
        case measure => simp [intOf]; omega
      · have hin : i = kl := by omega
        have HE := hid (show ks.take i = ks from List.take_of_length_le (by rw [HKL.out]; omega))
        clear hin
        go_wp2_with fail
        go_ret
        exact ⟨ret_int (by rw [HE.out, Tm.size, HBL.out]; simp only [tyAtoms]; omega), hbel⟩
  | some t =>
    have c4 := c.2.2.2.2.1
    have c3 := c.2.2.2.1
    have c5 := c.2.2.2.2.2.1
    clear c
    obtain ⟨tn, tv, htv⟩ := t.val_iface
    have HTA := hid (fun W => typeAtoms_any t (by simp only [tyAtoms] at hsz; omega) W)
    have hta2 : t.atoms ≤ 400000000 := by simp only [tyAtoms] at hsz; omega
    simp only [tyV] at c4
    rw [htv] at HTA c4
    clear htv
    have hsz2 : Tm.sizes ks ≤ 400000000 := by omega
    have hkl3 : kl ≤ 400000000 := by have := tmsizes_length ks; omega
    have hbl3 : bl ≤ 400000000 := by omega
    have HSZ := hid hsz
    clear hsz hbl hkl hks hkv
    go_enter Tryd.func51, Tryd.ntmps51
    go_wp2_with (go_at_call 72; refine (HTA.out _).mono ?_; rintro e w1 ⟨rfl, hb1⟩; have kc := (hb1.cell (p := ⟨b, 5, none⟩) HLT.out).trans c5)
    go_loopw [3, 29] (fun a u wr => ∃ i : Nat, i ≤ kl ∧ u = .int .i64 (i : Int) ∧ a = .int .i64 (1 + (bl : Int) + (t.atoms : Int) + (Tm.sizes (ks.take i) : Int)) ∧ Below w.heap.size w wr) (fun _ u _ => kl - (intOf u).toNat)
    case atStart => exact ⟨0, Nat.zero_le _, rfl, by simp [Tm.sizes], hb1⟩
    case round =>
      obtain ⟨i, hi, rfl, rfl, hbel⟩ := hrel
      have hz := hbel.size
      have htk := tmsizes_take ks i
      by_cases hlt : i < kl
      · obtain ⟨k, hki⟩ : ∃ k, ks[i]? = some k := ⟨_, List.getElem?_eq_getElem (by rw [HKL.out]; exact hlt)⟩
        obtain ⟨g, rfl, _, hc⟩ := HKV.out i _ (ptrs_get A hlt)
        have hkw : Kept w0 wr := HK.out.below hbel (by omega)
        have hc' := hkw.cell hc
        have HC := hid (HIH.out i k hki (by have := tmsizes_snoc ks i k hki; have := tmsizes_take ks (i + 1); omega) wr hkw (by omega))
        have hsn := tmsizes_snoc ks i k hki
        have htk2 := tmsizes_take ks (i + 1)
        have hbd : Tm.sizes (ks.take i) + k.size ≤ 400000000 := by omega
        have HSN := hid hsn
        clear hc hki hsn htk2 hkw c5
        go_wp2_with (go_at_call 51; refine HC.out.mono ?_; rintro e w2 ⟨rfl, hb2⟩)
        go_roundw
        case rel => exact ⟨i + 1, by omega, by go_num, by rw [HSN.out]; go_num, hbel.trans (hb2.mono (by omega))⟩
        case measure => simp [intOf]; omega
      · have hin : i = kl := by omega
        have HE := hid (show ks.take i = ks from List.take_of_length_le (by rw [HKL.out]; omega))
        clear hin
        go_wp2_with fail
        go_ret
        exact ⟨ret_int (by rw [HE.out, Tm.size, HBL.out]; simp only [tyAtoms]; omega), hbel⟩

end Go.Proofs.YtnphopnhioogdaaDoor

namespace Go.Proofs.YtnphopnhioogdaaDoor
open Go.RowKit

/-- What TermSize answers. -/
def sizeOfT (s : ByteArray) : Int := match readTm s with
  | some m => (m.size : Int)
  | none => -1
theorem sizeOf_none {s : ByteArray} (h : readTm s = none) : sizeOfT s = -1 := by rw [sizeOfT, h]
theorem sizeOf_some {s : ByteArray} {m : Tm} (h : readTm s = some m) : sizeOfT s = (m.size : Int) := by rw [sizeOfT, h]

set_option maxRecDepth 100000 in
set_option maxHeartbeats 1000000 in
theorem implTermSize_any (s : ByteArray) (hs : s.size ≤ 400000000) (w : World) : Calls Tryd.prog 28 #[.string s] w fun e w' => e = .returned (.int .i64 (sizeOfT s)) ∧ Below w.heap.size w w' := by
  have HC := hid (fun W => readTerm_any s hs W)
  cases hr : readTm s with
  | none =>
    have HR := hid hr
    have HS := hid (sizeOf_none hr)
    clear hr
    go_enter Tryd.func28, Tryd.ntmps28
    go_wp2_with (go_at_call 43; refine (HC.out _).mono ?_; rintro e w1 hp; rw [HR.out] at hp; obtain ⟨rfl, hb1⟩ := hp.none; clear hp)
    go_ret
    exact ⟨ret_int HS.out.symm, hb1⟩
  | some m =>
    have HR := hid hr
    have HS := hid (sizeOf_some hr)
    obtain ⟨t, _, _, _, hms⟩ := readTm_inv hr
    clear hr
    go_enter Tryd.func28, Tryd.ntmps28
    go_wp2_with (first | (go_at_call 51; have _ := hb1; refine (HN.out _ (Kept.refl _) (Nat.le_refl _)).mono ?_; rintro e w2 ⟨rfl, hb2⟩) | (go_at_call 43; refine (HC.out _).mono ?_; rintro e w1 hp; rw [HR.out] at hp; obtain ⟨b, rfl, hb1, hn1⟩ := hp.some; clear hp; have HN := hid (size_any hn1 (by omega)); clear hn1))
    go_ret
    exact ⟨ret_int HS.out.symm, hb1.trans (hb2.mono hb1.size)⟩

set_option maxRecDepth 100000 in
set_option maxHeartbeats 1000000 in
theorem specTermSize_any (s : ByteArray) (hs : s.size ≤ 400000000) (w : World) : Calls Tryd.prog 27 #[.string s] w fun e w' => e = .returned (.int .i64 (sizeOfT s)) ∧ Below w.heap.size w w' := by
  have HC := hid (fun W => l2Term_any s hs W)
  cases ht : termTree s with
  | none =>
    have HR := hid (sizeOf_none (termTree_none ht))
    have HT := hid ht
    clear ht
    go_enter Tryd.func27, Tryd.ntmps27
    go_wp2_with (go_at_call 41; refine (HC.out _).mono ?_; rintro e w1 hp; rw [HT.out] at hp; obtain ⟨pa, pp, pl, pc, rfl, hpl, hb1⟩ := hp.none; clear hp)
    go_ret
    exact ⟨ret_int HR.out.symm, hb1.alloc hb1.size _⟩
  | some t =>
    obtain ⟨hpt, hso, hsz, m, hm, htm⟩ := termTree_some ht
    have HR := hid ((sizeOf_some hm).trans (by rw [← tm_size t [] m htm]))
    have HT := hid ht
    have hsz2 : t.size ≤ 12000 := by omega
    clear ht hpt hso hm htm
    go_enter Tryd.func27, Tryd.ntmps27
    go_wp2_with (first | (go_at_call 41; refine (HC.out _).mono ?_; rintro e w1 hp; rw [HT.out] at hp; obtain ⟨pa, pp, pl, pc, rfl, hb1, htr⟩ := hp.some; clear hp; have HD := hid (fun W hk hs => l1Size_any htr hsz2 W hk hs); clear htr) | (go_at_call 50; refine (HD.out _ ((Kept.refl _).alloc (Nat.le_refl _) _) (by simp)).mono ?_; rintro e w2 ⟨rfl, hb2⟩))
    go_ret
    have s1 := hb1.size
    exact ⟨ret_int HR.out.symm, hb1.trans (((Below.refl _ _).alloc s1 _).trans (hb2.mono (by simp; omega)))⟩

set_option maxHeartbeats 1000000 in
theorem lawTermSize (s : ByteArray) (hs : s.size ≤ 9223372036854775807) (w : World) : Calls Tryd.prog 8 #[.string s] w fun e w' => e = .returned (.bool true) ∧ Below w.heap.size w w' := by
  by_cases h : s.size ≤ 1048576
  · have HA := hid (fun W => specTermSize_any s (by omega) W)
    have HB := hid (fun W => implTermSize_any s (by omega) W)
    have hq : (sizeOfT s != sizeOfT s) = false := by simp
    go_enter Tryd.func8, Tryd.ntmps8
    go_wp2_with (first | (go_at_call 27; refine (HA.out _).mono ?_; rintro e w1 ⟨rfl, hb1⟩) | (go_at_call 28; refine (HB.out _).mono ?_; rintro e w2 ⟨rfl, hb2⟩))
    go_ret
    exact ⟨rfl, hb1.trans (hb2.mono hb1.size)⟩
  · have h2 : 1048576 < s.size := by omega
    clear h
    go_enter Tryd.func8, Tryd.ntmps8
    go_wp2
    go_ret
    exact ⟨rfl, Below.refl _ _⟩
end Go.Proofs.YtnphopnhioogdaaDoor

namespace Go.Proofs.YtnphopnhioogdaaDoor
open Go.RowKit

set_option maxRecDepth 100000 in
set_option maxHeartbeats 1000000 in
theorem l2Inner_any (q : Tree) (b n cap i : Nat) (a : ByteArray) (c : Sg) (w : World) (hc0 : w.cell? ⟨b, 0, none⟩ = some (.string q.text)) (hn : 0 < n) (hcs : (shape q.text.toList)[i]? = some c) :
    Calls Tryd.prog 69 #[.agg #[.string a, .slice (some ⟨b, 0, none⟩) n cap], .int .i64 ((i : Int) + 1)] w fun e w' => e = .returned (.bool c.isK) ∧ Below w.heap.size w w' := by
  have HF := hid (fun W => l2Shape_any q.text W)
  have hi4 : i < 4 := by have := (List.getElem?_eq_some_iff.1 hcs).1; have := shape_four q.text.toList; omega
  have hFs := loS_size (shape q.text.toList)
  have HFG := hid (fun hi => loS_get (shape q.text.toList) i c hcs hi)
  have hil := (List.getElem?_eq_some_iff.1 hcs).1
  obtain ⟨F, hF⟩ : ∃ F, loS (shape q.text.toList) = F := ⟨_, rfl⟩
  rw [hF] at HF hFs HFG
  have hif : i < F.size := by omega
  have hfc := HFG.out hif
  have kc : ∀ o, (w.alloc o).cell? ⟨b, 0, none⟩ = some (.string q.text) := fun o => (World.cell?_of_block (w := w) (heap_alloc_old w o (World.block_lt_of_cell? w _ hc0))).trans hc0
  have f3 : F.size ≤ 4 := by have := shape_four q.text.toList; omega
  clear hF hFs HFG hil hcs hc0
  cases c with
  | V =>
    have e1 : F[i] = 118 := hfc
    clear hfc
    go_enter Tryd.func69, Tryd.ntmps69
    go_wp2_with (go_at_call 65; refine (HF.out _).mono ?_; rintro e w2 ⟨rfl, rfl⟩)
    go_ret
    exact ⟨ret_bool rfl, (Below.refl _ _).alloc (Nat.le_refl _) _⟩
  | M =>
    have e1 : F[i] = 109 := hfc
    clear hfc
    go_enter Tryd.func69, Tryd.ntmps69
    go_wp2_with (go_at_call 65; refine (HF.out _).mono ?_; rintro e w2 ⟨rfl, rfl⟩)
    go_ret
    exact ⟨ret_bool rfl, (Below.refl _ _).alloc (Nat.le_refl _) _⟩
  | X =>
    have e1 : F[i] = 120 := hfc
    clear hfc
    go_enter Tryd.func69, Tryd.ntmps69
    go_wp2_with (go_at_call 65; refine (HF.out _).mono ?_; rintro e w2 ⟨rfl, rfl⟩)
    go_ret
    exact ⟨ret_bool rfl, (Below.refl _ _).alloc (Nat.le_refl _) _⟩
  | A =>
    have e1 : F[i] = 97 := hfc
    clear hfc
    go_enter Tryd.func69, Tryd.ntmps69
    go_wp2_with (go_at_call 65; refine (HF.out _).mono ?_; rintro e w2 ⟨rfl, rfl⟩)
    go_ret
    exact ⟨ret_bool rfl, (Below.refl _ _).alloc (Nat.le_refl _) _⟩
  | C =>
    have e1 : F[i] = 99 := hfc
    clear hfc
    go_enter Tryd.func69, Tryd.ntmps69
    go_wp2_with (go_at_call 65; refine (HF.out _).mono ?_; rintro e w2 ⟨rfl, rfl⟩)
    go_ret
    exact ⟨ret_bool rfl, (Below.refl _ _).alloc (Nat.le_refl _) _⟩
end Go.Proofs.YtnphopnhioogdaaDoor

namespace Go.Proofs.YtnphopnhioogdaaDoor
open Go.RowKit

/-- The texts of the parts of a tree in memory. -/
theorem part_texts {w0 : World} {S : Nat → Prop} {q : Tree} {qs : List Tree} {b n : Nat} {A : Nat → Hd} (hn : qs.length = n) (hA : ∀ i, i < n + 1 → w0.cell? ⟨b, i * 2, none⟩ = some (.string (A i).a)) (hps : ∀ i p, (q :: qs)[i]? = some p → TIn w0 S p (A i)) :
    w0.cell? ⟨b, 0, none⟩ = some (.string q.text) ∧ ∀ k p, qs[k]? = some p → w0.cell? ⟨b, (k + 1) * 2, none⟩ = some (.string p.text) := by
  refine ⟨?_, fun k p hp => ?_⟩
  · have := hA 0 (by omega)
    rw [(hps 0 q rfl).text] at this; simpa using this
  · have hk := (List.getElem?_eq_some_iff.1 hp).1
    have := hA (k + 1) (by omega)
    rw [(hps (k + 1) p (by simpa using hp)).text] at this; exact this
end Go.Proofs.YtnphopnhioogdaaDoor

namespace Go.Proofs.YtnphopnhioogdaaDoor
open Go.RowKit

theorem frees_snoc (ks : List Tm) (i : Nat) (k : Tm) (h : ks[i]? = some k) : Tm.frees (ks.take (i + 1)) = Tm.frees (ks.take i) ++ k.free := by
  rw [List.take_add_one, h, Option.toList_some, frees_append, Tm.frees, Tm.frees, List.append_nil]
mutual
theorem free_length : ∀ m : Tm, m.free.length ≤ m.size
  | .mk hd a d bs ty ks => by
    rw [Tm.free, Tm.size]
    have := frees_length ks
    split
    · simp; omega
    · omega
theorem frees_length : ∀ ks : List Tm, (Tm.frees ks).length ≤ Tm.sizes ks
  | [] => by simp [Tm.frees]
  | k :: ks => by
    rw [Tm.frees, Tm.sizes, List.length_append]
    have := free_length k
    have := frees_length ks
    omega
end

set_option maxRecDepth 100000 in
set_option maxHeartbeats 2000000 in
theorem freeNames_any {w0 : World} {S : Nat → Prop} {m : Tm} {b : Nat} (hn : NIn w0 S m b) : m.size ≤ 100000 → ∀ w, Kept w0 w → w0.heap.size ≤ w.heap.size →
    Calls Tryd.prog 47 #[.pointer (some ⟨b, 0, none⟩)] w (OwnS m.free w) := by
  induction hn with
  | mk hd a d bs ty ks b bp bl bc kp kl kc A hS hb hbl hkl hbn hbv hkv hks ih =>
    intro hsz w hk hw
    have hfl := free_length (.mk hd a d bs ty ks)
    have hfk := frees_length ks
    rw [Tm.size] at hsz hfl
    have hlt0 := lt_of_block hb
    have c := cells_of_six ((hk b hlt0).trans hb)
    have c0 := c.1
    have c1 := c.2.1
    have c2 := c.2.2.1
    have c5 := c.2.2.2.2.2.1
    have hkl3 : kl ≤ 100000 := by have := tmsizes_length ks; omega
    have hsk : Tm.sizes ks ≤ 100000 := by omega
    have HKL := hid hkl
    have HKV := hid hkv
    have HIH := hid ih
    have HK := hid hk
    clear ih hk hb hbn hbv hS c hkl hkv hks hbl hfl hsz
    by_cases hf : hd.toList = [110, 97, 109, 101] ∧ d = -1
    · have HF := hid (show (Tm.mk hd a d bs ty ks).free = [a] by rw [Tm.free, if_pos hf])
      obtain ⟨h1, h2⟩ := hf
      have e1 : (hd.toList == [110, 97, 109, 101]) = true := by simpa using h1
      have e2 : (d == -1) = true := by simpa using h2
      clear h1 h2
      go_enter Tryd.func47, Tryd.ntmps47
      go_wp2_with fail
      go_ret
      refine ⟨some ⟨w.heap.size, 0, none⟩, 1, ?_, ?_, ?_⟩
      · rw [HF.out]; rfl
      · rw [HF.out]
        exact ⟨rfl, Or.inr ⟨w.heap.size, 1, #[.string a], rfl, Nat.le_refl _, heap_alloc_new w _, Nat.le_refl _, by decide, rfl, rfl⟩⟩
      · exact (Below.refl _ _).alloc (Nat.le_refl _) _
    · have HF := hid (show (Tm.mk hd a d bs ty ks).free = Tm.frees ks by rw [Tm.free, if_neg hf])
      have hfc : (hd.toList == [110, 97, 109, 101]) = false ∨ ((hd.toList == [110, 97, 109, 101]) = true ∧ (d == -1) = false) := by
        cases e1 : hd.toList == [110, 97, 109, 101] with
        | false => exact Or.inl rfl
        | true =>
          refine Or.inr ⟨rfl, ?_⟩
          cases e2 : d == -1 with
          | false => rfl
          | true => exact absurd ⟨by simpa using e1, by simpa using e2⟩ hf
      clear hf
      obtain ⟨i0, hi0, hz0, hz1, hz2⟩ := info_parts Tryd.infoStr
      rcases hfc with e1 | ⟨e1, e2⟩
      all_goals
        go_enter Tryd.func47, Tryd.ntmps47
        go_wp2_with fail
        go_loopw [3, 28] (fun v u wr => ∃ (i k kc : Nat) (q : Option Addr), i ≤ kl ∧ u = .int .i64 (i : Int) ∧ v = .slice q k kc ∧ k ≤ 100000 ∧ wr.ownsRow w.heap.size 9 1 (.slice q k kc) k ((Tm.frees (ks.take i)).map Value.string) ∧ Below w.heap.size w wr ∧ Hid ((Tm.frees (ks.take i)).length = k)) (fun _ u _ => kl - (intOf u).toNat)
        case atStart => exact ⟨0, 0, 0, none, Nat.zero_le _, rfl, rfl, Nat.zero_le _, World.ownsRow_nil _ _ _ _, Below.refl _ _, hid rfl⟩
        case round =>
          obtain ⟨i, k, kc, q, hi, rfl, rfl, hk5, hown, hbel, hkk⟩ := hrel
          have hz := hbel.size
          have HOWN := hid hown
          have HBEL := hid hbel
          have hkw : Kept w0 wr := HK.out.below hbel (by omega)
          clear hown hbel
          by_cases hlt : i < kl
          · obtain ⟨t, hti⟩ : ∃ t, ks[i]? = some t := ⟨_, List.getElem?_eq_getElem (by rw [HKL.out]; exact hlt)⟩
            obtain ⟨g, rfl, _, hc⟩ := HKV.out i _ (ptrs_get A hlt)
            have hc' := hkw.cell hc
            have htk := tmsizes_take ks (i + 1)
            have hsn := tmsizes_snoc ks i t hti
            have hts : t.size ≤ 100000 := by omega
            have HC := hid (HIH.out i t hti hts wr hkw (by omega))
            have hfs := frees_snoc ks i t hti
            have hfl2 := frees_length (ks.take (i + 1))
            have hln : (Tm.frees (ks.take (i + 1))).length = k + t.free.length := by rw [hfs, List.length_append, hkk.out]
            have hkn : k + t.free.length ≤ 100000 := by omega
            have HFS := hid hfs
            have HLN := hid hln
            clear hc hti htk hsn hkw c0 c1 c2 c5 hfs hfl2 hln
            obtain ⟨F, hFF⟩ : ∃ F, t.free = F := ⟨_, rfl⟩
            rw [hFF] at HC HFS hkn HLN
            clear hFF
            go_wp2_with (first | (at_builtin; have _ := hb1; refine wpList_append_sv _ rfl _ _ 23 rfl w.heap.size 9 i0 (.string ByteArray.empty) 16 Tryd.underlying23 hi0 hz0 hz1 hz2 rfl _ _ _ _ rfl (ownsRow_under HOWN.out hb1) _ _ _ F rfl hsv (by unfold maxLen; omega) (by omega) (by have := hb1.size; omega) ?_; intro q2 k2 w2 ho2 hg2; have HO2 := hid ho2; have HG2 := hid hg2; clear ho2 hg2) | (go_at_call 47; refine HC.out.mono ?_; rintro e w1 hp; obtain ⟨q1, c1, rfl, hsv, hb1⟩ := hp.sv; clear hp))
            go_roundw
            case rel =>
              refine ⟨i + 1, k + F.length, k2, q2, by omega, by go_num, rfl, hkn, ?_, ?_, HLN⟩
              · rw [HFS.out, List.map_append]; exact HO2.out
              · exact (HBEL.out.trans (hb1.mono (by omega))).grown HG2.out (by have := hb1.size; omega) (fun k e => (HOWN.out.lt k e).1)
            case measure => simp [intOf]; omega
          · have hin : i = kl := by omega
            have HE := hid (show ks.take i = ks from List.take_of_length_le (by rw [HKL.out]; omega))
            clear hin
            go_wp2_with fail
            go_ret
            refine ⟨q, kc, ?_, ?_, HBEL.out⟩
            · have := hkk.out
              rw [HE.out] at this; rw [HF.out, this]; rfl
            · have := hkk.out
              have h2 := HOWN.out
              rw [HE.out] at this h2; rw [HF.out, this]; exact h2

end Go.Proofs.YtnphopnhioogdaaDoor
