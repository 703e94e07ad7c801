/- Merged: SizeP, SpecU0, PartT, HeadTI, FreeM, BindsT, UsesT, FreeNI, PutQ, ClosV. -/
import Derived.Test.YthpcmglnooemaaaGreatDoorWA28
import Derived.Test.YthpcmglnooemaaaGreatDoorWASSortT0
import Derived.Test.YthpcmglnooemaaaGreatDoorWAr
import Derived.Test.YthpcmglnooemaaaGreatDoorWA23
import Derived.Test.YthpcmglnooemaaaGreatDoorWA11
import Derived.Test.YthpcmglnooemaaaGreatDoorWA15
import Derived.Test.YthpcmglnooemaaaGreatDoorWA7
namespace Go.Proofs.YthpcmglnooemaaaGreatDoor
open Go.RowKit

theorem termTree_none {s : ByteArray} (h : termTree s = none) : readTm s = none := by
  have h1 := termTree_read s
  rw [h] at h1
  cases hr : readTm s with
  | none => rfl
  | some m => rw [hr] at h1; simp at h1
theorem termTree_some {s : ByteArray} {t : Tree} (h : termTree s = some t) : parse s = some t ∧ t.srt ≠ none ∧ t.size ≤ 1500 ∧ ∃ m, readTm s = some m ∧ t.tm [] = some m := by
  have h1 := termTree_read s
  rw [h] at h1
  cases hr : readTm s with
  | none => rw [hr] at h1; simp at h1
  | some m =>
    obtain ⟨u, hp, hm, hs, _⟩ := readTm_inv hr
    unfold termTree at h
    rw [hp] at h; simp only at h
    split at h
    · rename_i hc; simp at h; subst h; exact ⟨hp, hc.1, hs, m, rfl, hm⟩
    · simp at h
end Go.Proofs.YthpcmglnooemaaaGreatDoor

namespace Go.Proofs.YthpcmglnooemaaaGreatDoor
open Go.RowKit

set_option maxRecDepth 100000 in
set_option maxHeartbeats 1000000 in
theorem l2Inner_any (q : Tree) (b n cap i : Nat) (a : ByteArray) (c : Sg) (w : World) (hc0 : w.cell? ⟨b, 0, none⟩ = some (.string q.text)) (hn : 0 < n) (hcs : (shape q.text.toList)[i]? = some c) :
    Calls Tryz.prog 53 #[.agg #[.string a, .slice (some ⟨b, 0, none⟩) n cap], .int .i64 ((i : Int) + 1)] w fun e w' => e = .returned (.bool c.isK) ∧ Below w.heap.size w w' := by
  have HF := hid (fun W => l2Shape_any q.text W)
  have hi4 : i < 4 := by have := (List.getElem?_eq_some_iff.1 hcs).1; have := shape_four q.text.toList; omega
  have hFs := loS_size (shape q.text.toList)
  have HFG := hid (fun hi => loS_get (shape q.text.toList) i c hcs hi)
  have hil := (List.getElem?_eq_some_iff.1 hcs).1
  obtain ⟨F, hF⟩ : ∃ F, loS (shape q.text.toList) = F := ⟨_, rfl⟩
  rw [hF] at HF hFs HFG
  have hif : i < F.size := by omega
  have hfc := HFG.out hif
  have kc : ∀ o, (w.alloc o).cell? ⟨b, 0, none⟩ = some (.string q.text) := fun o => (World.cell?_of_block (w := w) (heap_alloc_old w o (World.block_lt_of_cell? w _ hc0))).trans hc0
  have f3 : F.size ≤ 4 := by have := shape_four q.text.toList; omega
  clear hF hFs HFG hil hcs hc0
  cases c with
  | V =>
    have e1 : F[i] = 118 := hfc
    clear hfc
    go_enter Tryz.func53, Tryz.ntmps53
    go_wp2_with (go_at_call 73; refine (HF.out _).mono ?_; rintro e w2 ⟨rfl, rfl⟩)
    go_ret
    exact ⟨ret_bool rfl, (Below.refl _ _).alloc (Nat.le_refl _) _⟩
  | M =>
    have e1 : F[i] = 109 := hfc
    clear hfc
    go_enter Tryz.func53, Tryz.ntmps53
    go_wp2_with (go_at_call 73; refine (HF.out _).mono ?_; rintro e w2 ⟨rfl, rfl⟩)
    go_ret
    exact ⟨ret_bool rfl, (Below.refl _ _).alloc (Nat.le_refl _) _⟩
  | X =>
    have e1 : F[i] = 120 := hfc
    clear hfc
    go_enter Tryz.func53, Tryz.ntmps53
    go_wp2_with (go_at_call 73; refine (HF.out _).mono ?_; rintro e w2 ⟨rfl, rfl⟩)
    go_ret
    exact ⟨ret_bool rfl, (Below.refl _ _).alloc (Nat.le_refl _) _⟩
  | A =>
    have e1 : F[i] = 97 := hfc
    clear hfc
    go_enter Tryz.func53, Tryz.ntmps53
    go_wp2_with (go_at_call 73; refine (HF.out _).mono ?_; rintro e w2 ⟨rfl, rfl⟩)
    go_ret
    exact ⟨ret_bool rfl, (Below.refl _ _).alloc (Nat.le_refl _) _⟩
  | C =>
    have e1 : F[i] = 99 := hfc
    clear hfc
    go_enter Tryz.func53, Tryz.ntmps53
    go_wp2_with (go_at_call 73; refine (HF.out _).mono ?_; rintro e w2 ⟨rfl, rfl⟩)
    go_ret
    exact ⟨ret_bool rfl, (Below.refl _ _).alloc (Nat.le_refl _) _⟩
end Go.Proofs.YthpcmglnooemaaaGreatDoor

namespace Go.Proofs.YthpcmglnooemaaaGreatDoor
open Go.RowKit

/-- The texts of the parts of a tree in memory. -/
theorem part_texts {w0 : World} {S : Nat → Prop} {q : Tree} {qs : List Tree} {b n : Nat} {A : Nat → Hd} (hn : qs.length = n) (hA : ∀ i, i < n + 1 → w0.cell? ⟨b, i * 2, none⟩ = some (.string (A i).a)) (hps : ∀ i p, (q :: qs)[i]? = some p → TIn w0 S p (A i)) :
    w0.cell? ⟨b, 0, none⟩ = some (.string q.text) ∧ ∀ k p, qs[k]? = some p → w0.cell? ⟨b, (k + 1) * 2, none⟩ = some (.string p.text) := by
  refine ⟨?_, fun k p hp => ?_⟩
  · have := hA 0 (by omega)
    rw [(hps 0 q rfl).text] at this; simpa using this
  · have hk := (List.getElem?_eq_some_iff.1 hp).1
    have := hA (k + 1) (by omega)
    rw [(hps (k + 1) p (by simpa using hp)).text] at this; exact this
end Go.Proofs.YthpcmglnooemaaaGreatDoor

namespace Go.Proofs.YthpcmglnooemaaaGreatDoor
open Go.RowKit

def Tm.hd : Tm → ByteArray
  | .mk hd _ _ _ _ _ => hd
theorem NIn.hd {w : World} {S : Nat → Prop} {m : Tm} {b : Nat} (h : NIn w S m b) : w.cell? ⟨b, 0, none⟩ = some (.string m.hd) := by
  cases h with
  | mk hd a d bs ty ks b bp bl bc kp kl kc A hS0 hb0 _ _ _ _ _ _ => exact (cells_of_six hb0).1
theorem TIn.node_head {w : World} {S : Nat → Prop} {q : Tree} {qs : List Tree} {a : ByteArray} {p : Option Addr} {l c : Nat} (h : TIn w S (.node (q :: qs)) ⟨a, p, l, c⟩) : ∃ b : Nat, a = ByteArray.empty ∧ p = some ⟨b, 0, none⟩ ∧ 0 < l ∧ w.cell? ⟨b, 0, none⟩ = some (.string q.text) := by
  cases h with
  | node ps b cap A hp hl hc hS hA hB hps =>
    have h0 := hA 0 hp
    rw [(hps 0 q rfl).text] at h0
    exact ⟨b, rfl, rfl, hp, by simpa using h0⟩
/-- What TermHead answers. -/
def thOf (s : ByteArray) : ByteArray := match readTm s with
  | some m => m.hd
  | none => ByteArray.empty
theorem thOf_none {s : ByteArray} (h : readTm s = none) : thOf s = ByteArray.empty := by rw [thOf, h]
theorem thOf_some {s : ByteArray} {m : Tm} (h : readTm s = some m) : thOf s = m.hd := by rw [thOf, h]
theorem thOf_tree {s : ByteArray} {t : Tree} (h : termTree s = some t) : parse s = some t ∧ ∃ m, t.tm [] = some m ∧ thOf s = m.hd := by
  have h1 := termTree_read s
  obtain ⟨hp, _⟩ := termTree_sort h
  rw [h] at h1
  refine ⟨hp, ?_⟩
  cases hr : readTm s with
  | none => rw [hr] at h1; simp at h1
  | some m =>
    refine ⟨m, ?_, thOf_some hr⟩
    rw [readTm, hp] at hr
    simp only at hr
    split at hr
    · exact hr
    · simp at hr
theorem thOf_no {s : ByteArray} (h : termTree s = none) : thOf s = ByteArray.empty := by
  have h1 := termTree_read s
  rw [h] at h1
  cases hr : readTm s with
  | none => exact thOf_none hr
  | some m => rw [hr] at h1; simp at h1
theorem hd_name {s : ByteArray} {m : Tm} (h : Tree.tm [] (.atom s) = some m) (hn : nameB s.toList = true) : m.hd = strName := by
  rw [Tree.tm, atomTm] at h
  rw [if_neg (fun e => by rcases e with e | e <;> (rw [e] at hn; revert hn; decide)), if_pos hn] at h
  simp at h; subst h; rfl
theorem hd_bit {s : ByteArray} {m : Tm} (h : Tree.tm [] (.atom s) = some m) (hn : nameB s.toList = false) : m.hd = strBit := by
  rw [Tree.tm, atomTm] at h
  by_cases h1 : s.toList = [48] ∨ s.toList = [49]
  · rw [if_pos h1] at h; simp at h; subst h; rfl
  · rw [if_neg h1, if_neg (by rw [hn]; simp)] at h; simp at h
theorem hd_node {q : Tree} {qs : List Tree} {m : Tm} (h : Tree.tm [] (.node (q :: qs)) = some m) : m.hd = q.text := by
  rw [Tree.tm] at h
  split at h
  · simp at h
  · split at h
    · simp at h; subst h; rfl
    · simp at h

set_option maxRecDepth 100000 in
set_option maxHeartbeats 1000000 in
theorem implTermHead_any (s : ByteArray) (hs : s.size ≤ 400000000) (w : World) : Calls Tryz.prog 16 #[.string s] w fun e w' => e = .returned (.string (thOf s)) ∧ Below w.heap.size w w' := by
  have HC := hid (fun W => readTerm_any s hs W)
  cases hr : readTm s with
  | none =>
    have HR := hid hr
    have HS := hid (thOf_none hr)
    clear hr
    go_enter Tryz.func16, Tryz.ntmps16
    go_wp2_with (go_at_call 42; refine (HC.out _).mono ?_; rintro e w1 hp; rw [HR.out] at hp; obtain ⟨rfl, hb1⟩ := hp.none; clear hp)
    go_ret
    exact ⟨ret_str HS.out.symm, hb1⟩
  | some m =>
    have HR := hid hr
    have HS := hid (thOf_some hr)
    clear hr
    go_enter Tryz.func16, Tryz.ntmps16
    go_wp2_with (go_at_call 42; refine (HC.out _).mono ?_; rintro e w1 hp; rw [HR.out] at hp; obtain ⟨b, rfl, hb1, hn1⟩ := hp.some; clear hp; have hc1 := hn1.hd; clear hn1)
    go_ret
    exact ⟨ret_str HS.out.symm, hb1⟩

set_option maxRecDepth 100000 in
set_option maxHeartbeats 1000000 in
theorem specTermHead_any (s : ByteArray) (hs : s.size ≤ 400000000) (w : World) : Calls Tryz.prog 18 #[.string s] w fun e w' => e = .returned (.string (thOf s)) ∧ Below w.heap.size w w' := by
  have HC := hid (fun W => l2Term_any s hs W)
  cases ht : termTree s with
  | none =>
    have HR := hid (thOf_no ht)
    have HT := hid ht
    clear ht
    go_enter Tryz.func18, Tryz.ntmps18
    go_wp2_with (go_at_call 44; refine (HC.out _).mono ?_; rintro e w1 hp; rw [HT.out] at hp; obtain ⟨pa, pp, pl, pc, rfl, hpl, hb1⟩ := hp.none; clear hp)
    go_ret
    exact ⟨ret_str (by rw [HR.out]; rfl), hb1.alloc hb1.size _⟩
  | some t =>
    obtain ⟨hpt, m, hm, hho⟩ := thOf_tree ht
    have hok := parse_ok hpt
    have HT := hid ht
    clear ht hpt
    cases t with
    | atom a =>
      have hsm : a.size ≤ 400000000 := by have := hok.1; omega
      have HN := hid (fun W => l2Name_any a hsm W)
      cases e2 : nameB a.toList with
      | true =>
        have HR := hid (hho.trans (hd_name hm e2))
        have HE := hid e2
        clear hm hho e2 hok
        go_enter Tryz.func18, Tryz.ntmps18
        go_wp2_with (first | (go_at_call 44; refine (HC.out _).mono ?_; rintro e w1 hp; rw [HT.out] at hp; obtain ⟨pa, pp, pl, pc, rfl, hb1, htr⟩ := hp.some; clear hp; obtain ⟨rfl, rfl, rfl, rfl, hne⟩ := htr.atom_inv; have he := isEmpty_not pa hne; clear htr) | (go_at_call 49; refine (HN.out _).mono ?_; rintro e w2 ⟨rfl, rfl⟩; rw [HE.out]))
        go_ret
        exact ⟨ret_str (by rw [HR.out]; rfl), hb1.alloc hb1.size _⟩
      | false =>
        have HR := hid (hho.trans (hd_bit hm e2))
        have HE := hid e2
        clear hm hho e2 hok
        go_enter Tryz.func18, Tryz.ntmps18
        go_wp2_with (first | (go_at_call 44; refine (HC.out _).mono ?_; rintro e w1 hp; rw [HT.out] at hp; obtain ⟨pa, pp, pl, pc, rfl, hb1, htr⟩ := hp.some; clear hp; obtain ⟨rfl, rfl, rfl, rfl, hne⟩ := htr.atom_inv; have he := isEmpty_not pa hne; clear htr) | (go_at_call 49; refine (HN.out _).mono ?_; rintro e w2 ⟨rfl, rfl⟩; rw [HE.out]))
        go_ret
        exact ⟨ret_str (by rw [HR.out]; rfl), hb1.alloc hb1.size _⟩
    | node ps =>
      cases ps with
      | nil => rw [Tree.tm] at hm; cases hm
      | cons q qs =>
        have HR := hid (hho.trans (hd_node hm))
        clear hm hho hok
        obtain ⟨n, hn⟩ : ∃ n, (q :: qs).length = n := ⟨_, rfl⟩
        have HN := hid hn
        go_enter Tryz.func18, Tryz.ntmps18
        go_wp2_with (go_at_call 44; refine (HC.out _).mono ?_; rintro e w1 hp; rw [HT.out] at hp; obtain ⟨pa, pp, pl, pc, rfl, hb1, htr⟩ := hp.some; clear hp; have hx := htr.node_head; obtain ⟨b, rfl, rfl, h0, hc0⟩ := hx; have d0 : (0 : Int) < (pl : Int) := (by omega); have kc : ∀ o, (w1.alloc o).cell? ⟨b, 0, none⟩ = some (.string q.text) := (fun o => (World.cell?_of_block (w := w1) (heap_alloc_old w1 o (World.block_lt_of_cell? w1 _ hc0))).trans hc0); clear htr)
        go_ret
        exact ⟨ret_str (by rw [HR.out]), hb1.alloc hb1.size _⟩

end Go.Proofs.YthpcmglnooemaaaGreatDoor

namespace Go.Proofs.YthpcmglnooemaaaGreatDoor
open Go.RowKit

theorem frees_snoc (ks : List Tm) (i : Nat) (k : Tm) (h : ks[i]? = some k) : Tm.frees (ks.take (i + 1)) = Tm.frees (ks.take i) ++ k.free := by
  rw [List.take_add_one, h, Option.toList_some, frees_append, Tm.frees, Tm.frees, List.append_nil]
mutual
theorem free_length : ∀ m : Tm, m.free.length ≤ m.size
  | .mk hd a d bs ty ks => by
    rw [Tm.free, Tm.size]
    have := frees_length ks
    split
    · simp; omega
    · omega
theorem frees_length : ∀ ks : List Tm, (Tm.frees ks).length ≤ Tm.sizes ks
  | [] => by simp [Tm.frees]
  | k :: ks => by
    rw [Tm.frees, Tm.sizes, List.length_append]
    have := free_length k
    have := frees_length ks
    omega
end

set_option maxRecDepth 100000 in
set_option maxHeartbeats 2000000 in
theorem freeNames_any {w0 : World} {S : Nat → Prop} {m : Tm} {b : Nat} (hn : NIn w0 S m b) : m.size ≤ 100000 → ∀ w, Kept w0 w → w0.heap.size ≤ w.heap.size →
    Calls Tryz.prog 51 #[.pointer (some ⟨b, 0, none⟩)] w (OwnS m.free w) := by
  induction hn with
  | mk hd a d bs ty ks b bp bl bc kp kl kc A hS hb hbl hkl hbn hbv hkv hks ih =>
    intro hsz w hk hw
    have hfl := free_length (.mk hd a d bs ty ks)
    have hfk := frees_length ks
    rw [Tm.size] at hsz hfl
    have hlt0 := lt_of_block hb
    have c := cells_of_six ((hk b hlt0).trans hb)
    have c0 := c.1
    have c1 := c.2.1
    have c2 := c.2.2.1
    have c5 := c.2.2.2.2.2.1
    have hkl3 : kl ≤ 100000 := by have := tmsizes_length ks; omega
    have hsk : Tm.sizes ks ≤ 100000 := by omega
    have HKL := hid hkl
    have HKV := hid hkv
    have HIH := hid ih
    have HK := hid hk
    clear ih hk hb hbn hbv hS c hkl hkv hks hbl hfl hsz
    by_cases hf : hd.toList = [110, 97, 109, 101] ∧ d = -1
    · have HF := hid (show (Tm.mk hd a d bs ty ks).free = [a] by rw [Tm.free, if_pos hf])
      obtain ⟨h1, h2⟩ := hf
      have e1 : (hd.toList == [110, 97, 109, 101]) = true := by simpa using h1
      have e2 : (d == -1) = true := by simpa using h2
      clear h1 h2
      go_enter Tryz.func51, Tryz.ntmps51
      go_wp2_with fail
      go_ret
      refine ⟨some ⟨w.heap.size, 0, none⟩, 1, ?_, ?_, ?_⟩
      · rw [HF.out]; rfl
      · rw [HF.out]
        exact ⟨rfl, Or.inr ⟨w.heap.size, 1, #[.string a], rfl, Nat.le_refl _, heap_alloc_new w _, Nat.le_refl _, by decide, rfl, rfl⟩⟩
      · exact (Below.refl _ _).alloc (Nat.le_refl _) _
    · have HF := hid (show (Tm.mk hd a d bs ty ks).free = Tm.frees ks by rw [Tm.free, if_neg hf])
      have hfc : (hd.toList == [110, 97, 109, 101]) = false ∨ ((hd.toList == [110, 97, 109, 101]) = true ∧ (d == -1) = false) := by
        cases e1 : hd.toList == [110, 97, 109, 101] with
        | false => exact Or.inl rfl
        | true =>
          refine Or.inr ⟨rfl, ?_⟩
          cases e2 : d == -1 with
          | false => rfl
          | true => exact absurd ⟨by simpa using e1, by simpa using e2⟩ hf
      clear hf
      obtain ⟨i0, hi0, hz0, hz1, hz2⟩ := info_parts Tryz.infoStr
      rcases hfc with e1 | ⟨e1, e2⟩
      all_goals
        go_enter Tryz.func51, Tryz.ntmps51
        go_wp2_with fail
        go_loopw [3, 28] (fun v u wr => ∃ (i k kc : Nat) (q : Option Addr), i ≤ kl ∧ u = .int .i64 (i : Int) ∧ v = .slice q k kc ∧ k ≤ 100000 ∧ wr.ownsRow w.heap.size 9 1 (.slice q k kc) k ((Tm.frees (ks.take i)).map Value.string) ∧ Below w.heap.size w wr ∧ Hid ((Tm.frees (ks.take i)).length = k)) (fun _ u _ => kl - (intOf u).toNat)
        case atStart => exact ⟨0, 0, 0, none, Nat.zero_le _, rfl, rfl, Nat.zero_le _, World.ownsRow_nil _ _ _ _, Below.refl _ _, hid rfl⟩
        case round =>
          obtain ⟨i, k, kc, q, hi, rfl, rfl, hk5, hown, hbel, hkk⟩ := hrel
          have hz := hbel.size
          have HOWN := hid hown
          have HBEL := hid hbel
          have hkw : Kept w0 wr := HK.out.below hbel (by omega)
          clear hown hbel
          by_cases hlt : i < kl
          · obtain ⟨t, hti⟩ : ∃ t, ks[i]? = some t := ⟨_, List.getElem?_eq_getElem (by rw [HKL.out]; exact hlt)⟩
            obtain ⟨g, rfl, _, hc⟩ := HKV.out i _ (ptrs_get A hlt)
            have hc' := hkw.cell hc
            have htk := tmsizes_take ks (i + 1)
            have hsn := tmsizes_snoc ks i t hti
            have hts : t.size ≤ 100000 := by omega
            have HC := hid (HIH.out i t hti hts wr hkw (by omega))
            have hfs := frees_snoc ks i t hti
            have hfl2 := frees_length (ks.take (i + 1))
            have hln : (Tm.frees (ks.take (i + 1))).length = k + t.free.length := by rw [hfs, List.length_append, hkk.out]
            have hkn : k + t.free.length ≤ 100000 := by omega
            have HFS := hid hfs
            have HLN := hid hln
            clear hc hti htk hsn hkw c0 c1 c2 c5 hfs hfl2 hln
            obtain ⟨F, hFF⟩ : ∃ F, t.free = F := ⟨_, rfl⟩
            rw [hFF] at HC HFS hkn HLN
            clear hFF
            go_wp2_with (first | (at_builtin; have _ := hb1; refine wpList_append_sv _ rfl _ _ 25 rfl w.heap.size 9 i0 (.string ByteArray.empty) 16 Tryz.underlying25 hi0 hz0 hz1 hz2 rfl _ _ _ _ rfl (ownsRow_under HOWN.out hb1) _ _ _ F rfl hsv (by unfold maxLen; omega) (by omega) (by have := hb1.size; omega) ?_; intro q2 k2 w2 ho2 hg2; have HO2 := hid ho2; have HG2 := hid hg2; clear ho2 hg2) | (go_at_call 51; refine HC.out.mono ?_; rintro e w1 hp; obtain ⟨q1, c1, rfl, hsv, hb1⟩ := hp.sv; clear hp))
            go_roundw
            case rel =>
              refine ⟨i + 1, k + F.length, k2, q2, by omega, by go_num, rfl, hkn, ?_, ?_, HLN⟩
              · rw [HFS.out, List.map_append]; exact HO2.out
              · exact (HBEL.out.trans (hb1.mono (by omega))).grown HG2.out (by have := hb1.size; omega) (fun k e => (HOWN.out.lt k e).1)
            case measure => simp [intOf]; omega
          · have hin : i = kl := by omega
            have HE := hid (show ks.take i = ks from List.take_of_length_le (by rw [HKL.out]; omega))
            clear hin
            go_wp2_with fail
            go_ret
            refine ⟨q, kc, ?_, ?_, HBEL.out⟩
            · have := hkk.out
              rw [HE.out] at this; rw [HF.out, this]; rfl
            · have := hkk.out
              have h2 := HOWN.out
              rw [HE.out] at this h2; rw [HF.out, this]; exact h2

end Go.Proofs.YthpcmglnooemaaaGreatDoor

namespace Go.Proofs.YthpcmglnooemaaaGreatDoor
open Go.RowKit

/-- The names that are bound in a part. -/
def bnd (last : Bool) (xs : List ByteArray) : List ByteArray := if last = true then xs else []
theorem hasB_bnd (last : Bool) (xs : List ByteArray) (s : List UInt8) : hasB (bnd last xs) s = (last && hasB xs s) := by
  cases last <;> simp [bnd, hasB]
theorem xsOf_length : ∀ (cs : List Sg) (ps : List Tree), (xsOf cs ps).length ≤ ps.length
  | [], _ => by simp [xsOf]
  | c :: cs, [] => by cases c <;> simp [xsOf]
  | c :: cs, p :: ps => by
    have := xsOf_length cs ps
    cases c <;> simp [xsOf] <;> omega
theorem xsOf_step {cs : List Sg} {qs : List Tree} {j : Nat} {c : Sg} {p : Tree} (hc : cs[j]? = some c) (hp : qs[j]? = some p) :
    xsOf (cs.drop j) (qs.drop j) = if c = .X then p.text :: xsOf (cs.drop (j + 1)) (qs.drop (j + 1)) else xsOf (cs.drop (j + 1)) (qs.drop (j + 1)) := by
  rw [drop_at hc, drop_at hp]
  cases c <;> simp [xsOf]
theorem lo_X (c : Sg) (h : c ≠ .X) : ((c.lo.toNat : Int) == 120) = false := by
  cases c <;> first | rfl | exact absurd rfl h
theorem usesL_step {cs : List Sg} {qs : List Tree} {j n : Nat} {c : Sg} {p : Tree} (hn : cs.length = n) (hc : cs[j]? = some c) (hp : qs[j]? = some p) (s : List UInt8) (xs : List ByteArray) :
    Tree.usesL s xs (cs.drop j) (qs.drop j) = (if (c.isK && !hasB (bnd (decide (j + 1 = n)) xs) s) = true then p.uses s else 0) + Tree.usesL s xs (cs.drop (j + 1)) (qs.drop (j + 1)) := by
  have hj := (List.getElem?_eq_some_iff.1 hc).1
  have e : (cs.drop (j + 1) = []) ↔ j + 1 = n := by
    rw [List.drop_eq_nil_iff]; omega
  rw [drop_at hc, drop_at hp, Tree.usesL, hasB_bnd]
  obtain ⟨r, hr⟩ : ∃ r, cs.drop (j + 1) = r := ⟨_, rfl⟩
  rw [hr] at e ⊢
  congr 1
  by_cases hl : j + 1 = n
  · have h1 := e.2 hl
    subst h1
    rw [decide_eq_true hl]
    cases c.isK <;> cases hasB xs s <;> simp
  · have h1 : ¬ r = [] := fun x => hl (e.1 x)
    rw [decide_eq_false hl]
    cases c.isK <;> simp [h1]
mutual
theorem uses_le (s : List UInt8) : ∀ t : Tree, t.uses s ≤ t.wt
  | .atom a => by rw [Tree.uses, Tree.wt]; split <;> omega
  | .node [] => by rw [Tree.uses]; omega
  | .node (h :: ps) => by rw [Tree.uses, Tree.wt, Tree.wts]; have := usesL_le s (xsOf (shape h.text.toList) ps) (shape h.text.toList) ps; omega
theorem usesL_le (s : List UInt8) (xs : List ByteArray) : ∀ (cs : List Sg) (ps : List Tree), Tree.usesL s xs cs ps ≤ Tree.wts ps
  | [], _ => by simp [Tree.usesL]
  | _ :: _, [] => by simp [Tree.usesL]
  | c :: cs, p :: ps => by
    rw [Tree.usesL, Tree.wts]
    have h1 := uses_le s p
    have h2 := usesL_le s xs cs ps
    split <;> omega
end

set_option maxRecDepth 100000 in
set_option maxHeartbeats 1000000 in
theorem l2Binds_not (b N cap : Nat) (a : ByteArray) (j : Int) (w : World) (hj : j < (N : Int) - 1) (hN : N ≤ 100) :
    Calls Tryz.prog 86 #[.agg #[.string a, .slice (some ⟨b, 0, none⟩) N cap], .int .i64 j] w (OwnS [] w) := by
  have HO := hid (own_empty (w.alloc (.cells #[.string a, .slice (some ⟨b, 0, none⟩) N cap] 49)) w.heap.size (by simp))
  go_enter Tryz.func86, Tryz.ntmps86
  go_wp2_with fail
  go_ret
  exact ⟨_, 0, rfl, by simpa using HO.out, ((Below.refl _ _).alloc (Nat.le_refl _) _).alloc (by simp) _⟩

set_option maxRecDepth 100000 in
set_option maxHeartbeats 2000000 in
theorem l2Binds_last (q : Tree) (qs : List Tree) (b N n cap : Nat) (a : ByteArray) (j : Int) (w : World) (hN : N = n + 1) (hn : qs.length = n) (hsl : (shape q.text.toList).length = qs.length) (hj : (N : Int) - 1 ≤ j)
    (hc0 : w.cell? ⟨b, 0, none⟩ = some (.string q.text)) (hT : ∀ k p, qs[k]? = some p → w.cell? ⟨b, (k + 1) * 2, none⟩ = some (.string p.text)) :
    Calls Tryz.prog 86 #[.agg #[.string a, .slice (some ⟨b, 0, none⟩) N cap], .int .i64 j] w (OwnS (xsOf (shape q.text.toList) qs) w) := by
  have HF := hid (fun W => l2Shape_any q.text W)
  have hsz := loS_size (shape q.text.toList)
  have h4 := shape_four q.text.toList
  have HFG := hid (fun i c h hi => loS_get (shape q.text.toList) i c h hi)
  obtain ⟨F, hF⟩ : ∃ F, loS (shape q.text.toList) = F := ⟨_, rfl⟩
  rw [hF] at HF hsz HFG
  have hFn : F.size = n := by omega
  have HFN := hid hFn
  have f3 : F.size ≤ 4 := by omega
  have hN1 : n < N := by omega
  have hN5 : N ≤ 5 := by omega
  have HSL := hid (hsl.trans hn)
  have HN := hid hn
  have HT := hid hT
  have HC0 := hid hc0
  have hd : decide (j < (N : Int) - 1) = false := decide_eq_false (by omega)
  have hlt0 := World.block_lt_of_cell? w _ hc0
  have HO := hid (own_empty (w.alloc (.cells #[.string a, .slice (some ⟨b, 0, none⟩) N cap] 49)) (w.heap.size + 1) (by simp))
  have kc0 : ((w.alloc (.cells #[.string a, .slice (some ⟨b, 0, none⟩) N cap] 49)).alloc (.cells #[] 9)).cell? ⟨b, 0, none⟩ = some (.string q.text) := ((((Kept.refl w).alloc (Nat.le_refl _) _).alloc (by simp) _)).cell hc0
  obtain ⟨cs, hcs⟩ : ∃ cs, shape q.text.toList = cs := ⟨_, rfl⟩
  rw [hcs] at HSL HFG ⊢
  have hFle : n ≤ F.size := by omega
  obtain ⟨i0, hi0, hz0, hz1, hz2⟩ := info_parts Tryz.infoStr
  clear hF hsz hFn hsl hn hT hN hcs h4 hc0
  go_enter Tryz.func86, Tryz.ntmps86
  go_wp2_with (go_at_call 73; refine (HF.out _).mono ?_; rintro e w2 ⟨rfl, rfl⟩)
  go_loopw [5, 7] (fun v u wr => ∃ (i m c g : Nat) (L : List ByteArray), i ≤ F.size ∧ m ≤ i ∧ u = .int .i64 (i : Int) ∧ v = .slice (some ⟨g, 0, none⟩) m c ∧ wr.ownsRow (w.heap.size + 1) 9 1 (.slice (some ⟨g, 0, none⟩) m c) m (L.map Value.string) ∧
      Below (w.heap.size + 1) (w.alloc (.cells #[.string a, .slice (some ⟨b, 0, none⟩) N cap] 49)) wr ∧ Hid (L ++ xsOf (cs.drop i) (qs.drop i) = xsOf cs qs ∧ L.length = m)) (fun _ u _ => F.size - (intOf u).toNat)
  case atStart => exact ⟨0, 0, 0, _, [], Nat.zero_le _, Nat.le_refl _, rfl, rfl, by simpa using HO.out, (Below.refl _ _).alloc (by simp) _, hid ⟨by simp, rfl⟩⟩
  case round =>
    obtain ⟨i, m, c, g, L, hi, hmi, rfl, rfl, hown, hbel, hL⟩ := hrel
    have hz := hbel.size
    simp at hz
    have kc2 := cells_of_pair (block_below (heap_new w (.cells #[.string a, .slice (some ⟨b, 0, none⟩) N cap] 49) w.heap.size rfl) hbel (by omega))
    have kw : Kept w wr := ((Kept.refl w).alloc (Nat.le_refl _) _).below hbel (by omega)
    have HOWN := hid hown
    have HBEL := hid hbel
    clear hown hbel
    by_cases hlt : i < F.size
    · have hin : i < n := by have := HFN.out; omega
      obtain ⟨p, hp⟩ : ∃ p, qs[i]? = some p := ⟨_, List.getElem?_eq_getElem (by rw [HN.out]; exact hin)⟩
      obtain ⟨d, hdc⟩ : ∃ d, cs[i]? = some d := ⟨_, List.getElem?_eq_getElem (by rw [HSL.out]; exact hin)⟩
      have hfc := HFG.out i d hdc hlt
      have ct := kw.cell (HT.out i p hp)
      have hst := xsOf_step hdc hp
      have d2 : i + 1 < N := by omega
      by_cases hX : d = .X
      · subst hX
        rw [if_pos rfl] at hst
        have HL2 := hid (show (L ++ [p.text]) ++ xsOf (cs.drop (i + 1)) (qs.drop (i + 1)) = xsOf cs qs ∧ (L ++ [p.text]).length = m + 1 by
          refine ⟨?_, by simp [hL.out.2]⟩
          rw [List.append_assoc, List.singleton_append, ← hst]; exact hL.out.1)
        have e1 : F[i] = 120 := hfc
        clear hst hfc hdc hp kw hL hd
        go_wp2_with (at_builtin; refine wpList_append_at _ rfl _ _ 25 rfl (w.heap.size + 1) 9 i0 (.string ByteArray.empty) 1 16 Tryz.underlying25 hi0 hz0 hz1 hz2 rfl (by decide) (.slice (some ⟨g, 0, none⟩) m c) m _ rfl (HOWN.out.alloc _) ⟨wr.heap.size, 0, none⟩ 1 1 [.string p.text] rfl rfl (cells_new1 _ _ _ _ rfl) (by intro u hu; simp at hu; subst hu; rfl) (by decide) (by unfold maxLen; omega) (by omega) (by simp; omega) ?_; intro v' w2 hown2 hg2 hw2 hv2; obtain ⟨g2, kc3, rfl⟩ := hv2; have HG := hid hg2; have HO2 := hid hown2; clear hg2 hown2 hw2)
        go_roundw
        case rel =>
          refine ⟨i + 1, m + 1, kc3, g2, L ++ [p.text], by omega, by omega, by go_num, rfl, by rw [List.map_append]; exact HO2.out, ?_, HL2⟩
          exact (HBEL.out.alloc (by omega) _).grown HG.out (by simp; omega) (fun k e => (HOWN.out.lt k e).1)
        case measure => simp [intOf]; omega
      · rw [if_neg hX] at hst
        have e1 : ((F[i].toNat : Int) == 120) = false := by rw [hfc]; exact lo_X d hX
        have HL2 := hid (show L ++ xsOf (cs.drop (i + 1)) (qs.drop (i + 1)) = xsOf cs qs ∧ L.length = m from ⟨by rw [← hst]; exact hL.out.1, hL.out.2⟩)
        clear hst hfc hdc hp kw hL hd hX
        go_wp2_with fail
        go_roundw
        case rel => exact ⟨i + 1, m, c, g, L, by omega, by omega, by go_num, rfl, HOWN.out, HBEL.out, HL2⟩
        case measure => simp [intOf]; omega
    · have he : L = xsOf cs qs := by
        have := hL.out.1
        rw [List.drop_of_length_le (l := cs) (by rw [HSL.out]; have := HFN.out; omega)] at this
        simpa [xsOf] using this
      have HE := hid he
      have HLL := hid hL.out.2
      clear he hL kw hd
      go_wp2_with fail
      go_ret
      refine ⟨some ⟨g, 0, none⟩, c, ?_, ?_, ?_⟩
      · rw [← HE.out, HLL.out]; rfl
      · rw [← HE.out, HLL.out]; exact own_base HOWN.out (by omega)
      · exact ((Below.refl w.heap.size w).alloc (Nat.le_refl _) _).trans (HBEL.out.mono (by omega))

/-- THE NAMES THAT ARE BOUND IN A PART. -/
theorem l2Binds_any (q : Tree) (qs : List Tree) (b N n i cap : Nat) (a : ByteArray) (w : World) (hN : N = n + 1) (hn : qs.length = n) (hi : i < n) (hsl : (shape q.text.toList).length = qs.length)
    (hc0 : w.cell? ⟨b, 0, none⟩ = some (.string q.text)) (hT : ∀ k p, qs[k]? = some p → w.cell? ⟨b, (k + 1) * 2, none⟩ = some (.string p.text)) :
    Calls Tryz.prog 86 #[.agg #[.string a, .slice (some ⟨b, 0, none⟩) N cap], .int .i64 ((i : Int) + 1)] w (OwnS (bnd (decide (i + 1 = n)) (xsOf (shape q.text.toList) qs)) w) := by
  have h4 := shape_four q.text.toList
  by_cases hl : i + 1 = n
  · rw [decide_eq_true hl]
    exact l2Binds_last q qs b N n cap a _ w hN hn hsl (by omega) hc0 hT
  · rw [decide_eq_false hl]
    exact l2Binds_not b N cap a _ w (by omega) (by omega)
end Go.Proofs.YthpcmglnooemaaaGreatDoor

namespace Go.Proofs.YthpcmglnooemaaaGreatDoor
open Go.RowKit

set_option maxRecDepth 100000 in
set_option maxHeartbeats 4000000 in
theorem l2Uses_go (s : ByteArray) {w0 : World} {S : Nat → Prop} {q : Tree} {qs : List Tree} {b cap n N : Nat} {A : Nat → Hd} (hn : qs.length = n) (hN : N = n + 1) (hwt : 1 + Tree.wts (q :: qs) ≤ 12000)
    (hA : ∀ i, i < n + 1 → w0.cell? ⟨b, i * 2, none⟩ = some (.string (A i).a)) (hB : ∀ i, i < n + 1 → w0.cell? ⟨b, i * 2 + 1, none⟩ = some (.slice (A i).p (A i).l (A i).c))
    (hps : ∀ i p, (q :: qs)[i]? = some p → TIn w0 S p (A i)) (hwf : Tree.srt (.node (q :: qs)) ≠ none)
    (ih : ∀ i p, (q :: qs)[i]? = some p → p.srt ≠ none → ∀ W, Kept w0 W → w0.heap.size ≤ W.heap.size → Calls Tryz.prog 63 #[.agg #[.string (A i).a, .slice (A i).p (A i).l (A i).c], .string s] W fun e w' => e = .returned (.int .i64 (p.uses s.toList : Int)) ∧ Below W.heap.size W w')
    (w : World) (hk : Kept w0 w) (hw : w0.heap.size ≤ w.heap.size) :
    Calls Tryz.prog 63 #[.agg #[.string ByteArray.empty, .slice (some ⟨b, 0, none⟩) N cap], .string s] w fun e w' => e = .returned (.int .i64 (Tree.uses s.toList (.node (q :: qs)) : Int)) ∧ Below w.heap.size w w' := by
  obtain ⟨h0, hsl, hft⟩ := wf_node hwf
  have h4 := shape_four q.text.toList
  obtain ⟨ht0, htk⟩ := part_texts hn hA hps
  have HFT := hid (fun i c p hc hp hk => fit1_wf (fits_get (shape q.text.toList) qs i c p hft hc hp) hk)
  have HI := hid (fun i c W h0 hc => l2Inner_any q b N cap i ByteArray.empty c W h0 (by omega) hc)
  have HBN := hid (fun i W hi h0 ht => l2Binds_any q qs b N n i cap ByteArray.empty W hN hn hi hsl h0 ht)
  have hxl : (xsOf (shape q.text.toList) qs).length ≤ 4 := by have := xsOf_length (shape q.text.toList) qs; omega
  have hle := usesL_le s.toList (xsOf (shape q.text.toList) qs) (shape q.text.toList) qs
  rw [Tree.wts] at hwt
  have HU := hid (show Tree.uses s.toList (.node (q :: qs)) = Tree.usesL s.toList (xsOf (shape q.text.toList) qs) (shape q.text.toList) qs by rw [Tree.uses])
  obtain ⟨cs, hcs⟩ : ∃ cs, shape q.text.toList = cs := ⟨_, rfl⟩
  rw [hcs] at HFT HI HBN HU hxl hle hsl h4
  obtain ⟨xs, hxs⟩ : ∃ xs, xsOf cs qs = xs := ⟨_, rfl⟩
  rw [hxs] at HBN HU hxl hle
  obtain ⟨R, hR⟩ : ∃ R, Tree.usesL s.toList xs cs qs = R := ⟨_, rfl⟩
  rw [hR] at HU hle
  have HR := hid hR
  have hn4 : n ≤ 4 := by omega
  have hN1 : n < N := by omega
  have hN2 : N ≤ n + 1 := by omega
  have hN5 : N ≤ 5 := by omega
  have hRle : R ≤ 12000 := by omega
  have HSL := hid (hsl.trans hn)
  have HN := hid hn
  have HT0 := hid ht0
  have HTK := hid htk
  have HA := hid hA
  have HB := hid hB
  have HIH := hid ih
  have HK := hid hk
  have hne : 1 ≤ N := by omega
  clear hn hN hwt hA hB hps hwf ih hk h0 hsl hft h4 ht0 htk hle hcs hxs hR
  go_enter Tryz.func63, Tryz.ntmps63
  go_wp2_with fail
  go_loopw [5, 6] (fun v u wr => ∃ (i m : Nat), i ≤ n ∧ m ≤ R ∧ u = .int .i64 ((i : Int) + 1) ∧ v = .int .i64 (m : Int) ∧ Below (w.heap.size + 1) (w.alloc (.cells #[.string ByteArray.empty, .slice (some ⟨b, 0, none⟩) N cap] 49)) wr ∧ Hid (m + Tree.usesL s.toList xs (cs.drop i) (qs.drop i) = R)) (fun _ u _ => N - (intOf u).toNat)
  case atStart => exact ⟨0, 0, Nat.zero_le _, Nat.zero_le _, rfl, rfl, Below.refl _ _, hid (by rw [List.drop_zero, List.drop_zero, Nat.zero_add]; exact HR.out)⟩
  case round =>
    obtain ⟨i, m, hi, hm, rfl, rfl, hbel, hL⟩ := hrel
    have hz := hbel.size
    simp at hz
    have kc2 := cells_of_pair (block_below (heap_new w (.cells #[.string ByteArray.empty, .slice (some ⟨b, 0, none⟩) N cap] 49) w.heap.size rfl) hbel (by omega))
    have kw : Kept w0 wr := (HK.out.alloc hw _).below hbel (by omega)
    have hwr : w0.heap.size ≤ wr.heap.size := by omega
    have HBEL := hid hbel
    by_cases hlt : i < n
    · obtain ⟨p, hp⟩ : ∃ p, qs[i]? = some p := ⟨_, List.getElem?_eq_getElem (by rw [HN.out]; exact hlt)⟩
      obtain ⟨c, hcc⟩ : ∃ c, cs[i]? = some c := ⟨_, List.getElem?_eq_getElem (by rw [HSL.out]; exact hlt)⟩
      have d2 : (i : Int) + 1 < (N : Int) := by omega
      have d2' : i + 1 < N := by omega
      have hst := usesL_step HSL.out hcc hp s.toList xs
      have CI := hid (fun W (hk : Kept wr W) => HI.out i c W (hk.cell (kw.cell HT0.out)) hcc)
      have CB := hid (fun W (hk : Kept wr W) => HBN.out i W hlt (hk.cell (kw.cell HT0.out)) (fun k p hp => hk.cell (kw.cell (HTK.out k p hp))))
      have ca := fun W (hk : Kept wr W) => hk.cell (kw.cell (HA.out (i + 1) (by omega)))
      have cb := fun W (hk : Kept wr W) => hk.cell (kw.cell (HB.out (i + 1) (by omega)))
      have CA := hid ca
      have CB2 := hid cb
      have kc3 := hid (fun W (hk : Kept wr W) => (show W.cell? ⟨w.heap.size, 0, none⟩ = some (.string ByteArray.empty) ∧ W.cell? ⟨w.heap.size, 1, none⟩ = some (.slice (some ⟨b, 0, none⟩) N cap) from ⟨hk.cell kc2.1, hk.cell kc2.2.1⟩))
      cases hK : c.isK with
      | false =>
        rw [hK] at CI
        have HL2 := hid (show m + Tree.usesL s.toList xs (cs.drop (i + 1)) (qs.drop (i + 1)) = R by have := hL.out; rw [hst, hK] at this; simpa using this)
        clear hst hL hp hcc kw hK ca cb
        go_wp2_with (go_at_call 53; refine (CI.out _ (Kept.refl _)).mono ?_; rintro e w1 ⟨rfl, hb1⟩)
        go_roundw
        case rel => exact ⟨i + 1, m, by omega, by omega, by go_num, rfl, HBEL.out.trans (hb1.mono (by omega)), HL2⟩
        case measure => simp [intOf]; omega
      | true =>
        rw [hK] at CI
        have hwp := HFT.out i c p hcc hp hK
        have HC := hid (fun W (hk : Kept wr W) (hs : wr.heap.size ≤ W.heap.size) => HIH.out (i + 1) p (by simpa using hp) hwp W (kw.trans hk hwr) (by omega))
        cases hh : hasB (bnd (decide (i + 1 = n)) xs) s.toList with
        | true =>
          have HL2 := hid (show m + Tree.usesL s.toList xs (cs.drop (i + 1)) (qs.drop (i + 1)) = R by have := hL.out; rw [hst, hK, hh] at this; simpa using this)
          have hbl : (bnd (decide (i + 1 = n)) xs).length ≤ 4 := by unfold bnd; split; exact hxl; simp
          have HH := hid hh
          obtain ⟨L, hLL⟩ : ∃ L, bnd (decide (i + 1 = n)) xs = L := ⟨_, rfl⟩
          rw [hLL] at CB HH hbl
          have HAS := hid (fun p1 c1 W hv => l2Has_any s L p1 L.length c1 W hv (by omega))
          rw [HH.out] at HAS
          clear hst hL hp hcc kw hK hh hLL ca cb
          go_wp2_with (first | (go_at_call 84; have _ := hb2; refine (HAS.out _ _ _ hsv).mono ?_; rintro e w3 ⟨rfl, rfl⟩) | (go_at_call 86; have _ := hb1; refine (CB.out _ (Kept.of_below hb1 (Nat.le_refl _))).mono ?_; rintro e w2 hp2; obtain ⟨q2, c2, rfl, hsv, hb2⟩ := hp2.sv; clear hp2) | (go_at_call 53; refine (CI.out _ (Kept.refl _)).mono ?_; rintro e w1 ⟨rfl, hb1⟩; have k1 := kc3.out _ (Kept.of_below hb1 (Nat.le_refl _))))
          go_roundw
          case rel => exact ⟨i + 1, m, by omega, by omega, by go_num, rfl, HBEL.out.trans ((hb1.trans (hb2.mono hb1.size)).mono (by omega)), HL2⟩
          case measure => simp [intOf]; omega
        | false =>
          have hrest : m + (p.uses s.toList + Tree.usesL s.toList xs (cs.drop (i + 1)) (qs.drop (i + 1))) = R := by have := hL.out; rw [hst, hK, hh] at this; simpa using this
          have hmR : m + p.uses s.toList ≤ R := by omega
          have HL2 := hid (show (m + p.uses s.toList) + Tree.usesL s.toList xs (cs.drop (i + 1)) (qs.drop (i + 1)) = R by omega)
          have hbl : (bnd (decide (i + 1 = n)) xs).length ≤ 4 := by unfold bnd; split; exact hxl; simp
          have HH := hid hh
          obtain ⟨L, hLL⟩ : ∃ L, bnd (decide (i + 1 = n)) xs = L := ⟨_, rfl⟩
          rw [hLL] at CB HH hbl
          obtain ⟨U, hU⟩ : ∃ U, p.uses s.toList = U := ⟨_, rfl⟩
          rw [hU] at HC hmR HL2
          have HAS := hid (fun p1 c1 W hv => l2Has_any s L p1 L.length c1 W hv (by omega))
          rw [HH.out] at HAS
          clear hst hL hp hcc kw hK hh hLL hrest hU hwp ca cb
          go_wp2_with (first | (go_at_call 63; have _ := hb2; refine (HC.out _ (Kept.of_below hb12 (Nat.le_refl _)) (by have := hb1.size; have := hb2.size; omega)).mono ?_; rintro e w4 ⟨rfl, hb4⟩) | (go_at_call 84; have _ := hb2; refine (HAS.out _ _ _ hsv).mono ?_; rintro e w3 ⟨rfl, rfl⟩) | (go_at_call 86; have _ := hb1; refine (CB.out _ (Kept.of_below hb1 (Nat.le_refl _))).mono ?_; rintro e w2 hp2; obtain ⟨q2, c2, rfl, hsv, hb2⟩ := hp2.sv; clear hp2; have hb12 := hb1.trans (hb2.mono hb1.size); have k2 := kc3.out _ (Kept.of_below hb12 (Nat.le_refl _)); have ca2 := CA.out _ (Kept.of_below hb12 (Nat.le_refl _)); have cb2 := CB2.out _ (Kept.of_below hb12 (Nat.le_refl _))) | (go_at_call 53; refine (CI.out _ (Kept.refl _)).mono ?_; rintro e w1 ⟨rfl, hb1⟩; have k1 := kc3.out _ (Kept.of_below hb1 (Nat.le_refl _))))
          go_roundw
          case rel => exact ⟨i + 1, m + U, by omega, by omega, by go_num, by go_num, HBEL.out.trans ((hb12.trans (hb4.mono (by have := hb1.size; have := hb2.size; omega))).mono (by omega)), HL2⟩
          case measure => simp [intOf]; omega
    · have he : m = R := by
        have := hL.out
        rw [List.drop_of_length_le (l := cs) (by rw [HSL.out]; omega)] at this
        simpa [Tree.usesL] using this
      have HE := hid he
      clear he hL kw
      go_wp2_with fail
      go_ret
      exact ⟨ret_int (by rw [HU.out, HE.out]), ((Below.refl w.heap.size w).alloc (Nat.le_refl _) _).trans (HBEL.out.mono (by omega))⟩

/-- HOW OFTEN A NAME STANDS FREE, BY THE MODEL. -/
theorem l2Uses_any (s : ByteArray) {w0 : World} {S : Nat → Prop} {t : Tree} {h : Hd} (ht : TIn w0 S t h) : t.wt ≤ 12000 → t.ok → t.srt ≠ none → ∀ w, Kept w0 w → w0.heap.size ≤ w.heap.size →
    Calls Tryz.prog 63 #[.agg #[.string h.a, .slice h.p h.l h.c], .string s] w fun e w' => e = .returned (.int .i64 (t.uses s.toList : Int)) ∧ Below w.heap.size w w' := by
  induction ht with
  | atom a hne hm =>
    intro _ _ _ w _ _
    have he := isEmpty_not a hne
    cases e0 : a.toList == s.toList with
    | true =>
      have HQ := hid (show (Tree.atom a).uses s.toList = 1 by rw [Tree.uses, if_pos (by simpa using e0)])
      go_enter Tryz.func63, Tryz.ntmps63
      go_wp2_with fail
      go_ret
      exact ⟨ret_int (by rw [HQ.out]; rfl), (Below.refl _ _).alloc (Nat.le_refl _) _⟩
    | false =>
      have HQ := hid (show (Tree.atom a).uses s.toList = 0 by rw [Tree.uses, if_neg (by simpa using e0)])
      go_enter Tryz.func63, Tryz.ntmps63
      go_wp2_with fail
      go_ret
      exact ⟨ret_int (by rw [HQ.out]; rfl), (Below.refl _ _).alloc (Nat.le_refl _) _⟩
  | node ps b cap A hp hl hc hS hA hB hps ih =>
    intro hwt hok hwf w hk hw
    obtain ⟨q, qs, rfl⟩ : ∃ q qs, ps = q :: qs := by cases ps with | nil => simp at hp | cons q qs => exact ⟨q, qs, rfl⟩
    rw [Tree.wt] at hwt
    rw [Tree.ok] at hok
    simp only [List.length_cons] at hl hA hB
    exact l2Uses_go s (S := S) (n := qs.length) rfl rfl hwt hA hB hps hwf (fun i p hp hw => ih i p hp (by have := wt_part (q :: qs) i p hp; omega) (oks_part _ hok i p hp) hw) w hk hw
end Go.Proofs.YthpcmglnooemaaaGreatDoor

namespace Go.Proofs.YthpcmglnooemaaaGreatDoor
open Go.RowKit

/-- What TermUses answers. -/
def usesOf (s name : ByteArray) : Int := match readTm s with
  | some m => if nameB name.toList = true then (cntB name.toList m.free : Int) else -1
  | none => -1
theorem usesOf_none {s n : ByteArray} (h : readTm s = none) : usesOf s n = -1 := by rw [usesOf, h]
theorem usesOf_no {s n : ByteArray} (h : nameB n.toList = false) : usesOf s n = -1 := by
  rw [usesOf]
  cases readTm s with
  | none => rfl
  | some m => simp only; rw [if_neg (by rw [h]; simp)]
theorem usesOf_some {s n : ByteArray} {m : Tm} (h : readTm s = some m) (hn : nameB n.toList = true) : usesOf s n = (cntB n.toList m.free : Int) := by rw [usesOf, h]; simp only; rw [if_pos hn]
theorem cntB_snoc (s : List UInt8) (l : List ByteArray) (i : Nat) (x : ByteArray) (h : l[i]? = some x) : cntB s (l.take (i + 1)) = cntB s (l.take i) + (if x.toList = s then 1 else 0) := by
  rw [List.take_add_one, h, Option.toList_some, cntB_append]
  congr 1
  by_cases e : x.toList = s <;> simp [cntB, e]
theorem cntB_le (s : List UInt8) (l : List ByteArray) : cntB s l ≤ l.length := List.countP_le_length

set_option maxRecDepth 100000 in
set_option maxHeartbeats 2000000 in
theorem implTermUses_any (s name : ByteArray) (hs : s.size ≤ 400000000) (hn : name.size ≤ 400000000) (w : World) : Calls Tryz.prog 28 #[.string s, .string name] w fun e w' => e = .returned (.int .i64 (usesOf s name)) ∧ Below w.heap.size w w' := by
  have HC := hid (fun W => readTerm_any s hs W)
  have HNM := hid (fun W => isName_any name hn W)
  cases hr : readTm s with
  | none =>
    have HR := hid hr
    have HS := hid (usesOf_none (n := name) hr)
    clear hr
    go_enter Tryz.func28, Tryz.ntmps28
    go_wp2_with (go_at_call 42; refine (HC.out _).mono ?_; rintro e w1 hp; rw [HR.out] at hp; obtain ⟨rfl, hb1⟩ := hp.none; clear hp)
    go_ret
    exact ⟨ret_int HS.out.symm, hb1⟩
  | some m =>
    have HR := hid hr
    obtain ⟨t, _, _, _, hms⟩ := readTm_inv hr
    cases hnb : nameB name.toList with
    | false =>
      have HS := hid (usesOf_no (s := s) hnb)
      rw [hnb] at HNM
      clear hr hnb
      go_enter Tryz.func28, Tryz.ntmps28
      go_wp2_with (first | (go_at_call 58; have _ := hb1; refine (HNM.out _).mono ?_; rintro e w2 ⟨rfl, hb2⟩) | (go_at_call 42; refine (HC.out _).mono ?_; rintro e w1 hp; rw [HR.out] at hp; obtain ⟨b, rfl, hb1, hn1⟩ := hp.some; clear hp hn1))
      go_ret
      exact ⟨ret_int HS.out.symm, hb1.trans (hb2.mono hb1.size)⟩
    | true =>
      have HS := hid (usesOf_some hr hnb)
      rw [hnb] at HNM
      have hfl := free_length m
      obtain ⟨F, hF⟩ : ∃ F, m.free = F := ⟨_, rfl⟩
      rw [hF] at HS hfl
      have hfl2 : F.length ≤ 1500 := by omega
      have HFF := hid hF
      clear hr hnb hF hfl
      go_enter Tryz.func28, Tryz.ntmps28
      go_wp2_with (first | (go_at_call 51; have _ := hb2; refine (HN.out _ (Kept.of_below hb2 (Nat.le_refl _)) hb2.size).mono ?_; rintro e w3 hp; rw [HFF.out] at hp; obtain ⟨q3, c3, rfl, hsv, hb3⟩ := hp.sv; have HSV := hid hsv; clear hp hsv) | (go_at_call 58; have _ := hb1; refine (HNM.out _).mono ?_; rintro e w2 ⟨rfl, hb2⟩) | (go_at_call 42; refine (HC.out _).mono ?_; rintro e w1 hp; rw [HR.out] at hp; obtain ⟨b, rfl, hb1, hn1⟩ := hp.some; clear hp; have HN := hid (freeNames_any hn1 (by omega)); clear hn1))
      obtain ⟨n, hnl⟩ : ∃ n, F.length = n := ⟨_, rfl⟩
      have HNL := hid hnl
      rw [hnl] at hfl2 HSV ⊢
      clear hnl
      have HB := hid ((hb1.trans (hb2.mono hb1.size)).trans (hb3.mono (by have := hb1.size; have := hb2.size; omega)))
      go_loop [7, 25] (fun v u => ∃ i : Nat, i ≤ n ∧ u = .int .i64 (i : Int) ∧ v = .int .i64 (cntB name.toList (F.take i) : Int)) (fun _ u => n - (intOf u).toNat)
      case atStart => exact ⟨0, Nat.zero_le _, rfl, rfl⟩
      case round =>
        obtain ⟨i, hi, rfl, rfl⟩ := hrel
        have hcl := cntB_le name.toList (F.take i)
        have hcl2 : (F.take i).length ≤ i := List.length_take_le _ _
        have hcl3 : cntB name.toList (F.take i) ≤ 1500 := by omega
        by_cases hlt : i < n
        · obtain ⟨x, hx⟩ : ∃ x, F[i]? = some x := ⟨_, List.getElem?_eq_getElem (by rw [HNL.out]; exact hlt)⟩
          obtain ⟨g, rfl, hc⟩ := HSV.out.2.2 i x hx
          have hst := cntB_snoc name.toList F i x hx
          clear hcl hcl2 hx
          cases e0 : x.toList == name.toList with
          | true =>
            rw [if_pos (by simpa using e0)] at hst
            have HST := hid hst
            clear hst
            go_wp2_with fail
            go_round
            case rel => exact ⟨i + 1, by omega, by go_num, by rw [HST.out]; go_num⟩
            case measure => simp [intOf]; omega
          | false =>
            rw [if_neg (by simpa using e0)] at hst
            have HST := hid hst
            clear hst
            go_wp2_with fail
            go_round
            case rel => exact ⟨i + 1, by omega, by go_num, by rw [HST.out]; rfl⟩
            case measure => simp [intOf]; omega
        · have HE := hid (show F.take i = F from List.take_of_length_le (by rw [HNL.out]; omega))
          clear hcl hcl2
          go_wp2_with fail
          go_ret
          exact ⟨ret_int (by rw [HS.out, HE.out]), HB.out⟩

set_option maxRecDepth 100000 in
set_option maxHeartbeats 2000000 in
theorem specTermUses_any (s name : ByteArray) (hs : s.size ≤ 400000000) (hn : name.size ≤ 400000000) (w : World) : Calls Tryz.prog 35 #[.string s, .string name] w fun e w' => e = .returned (.int .i64 (usesOf s name)) ∧ Below w.heap.size w w' := by
  have HC := hid (fun W => l2Term_any s hs W)
  have HNM := hid (fun W => l2Name_any name hn W)
  cases ht : termTree s with
  | none =>
    have HR := hid (usesOf_none (n := name) (termTree_none ht))
    have HT := hid ht
    clear ht
    go_enter Tryz.func35, Tryz.ntmps35
    go_wp2_with (go_at_call 44; refine (HC.out _).mono ?_; rintro e w1 hp; rw [HT.out] at hp; obtain ⟨pa, pp, pl, pc, rfl, hpl, hb1⟩ := hp.none; clear hp)
    go_ret
    exact ⟨ret_int HR.out.symm, hb1.alloc hb1.size _⟩
  | some t =>
    obtain ⟨hpt, hso, hsz, m, hm, htm⟩ := termTree_some ht
    have HT := hid ht
    cases hnb : nameB name.toList with
    | false =>
      have HR := hid (usesOf_no (s := s) hnb)
      rw [hnb] at HNM
      clear ht hpt hso hm htm hnb
      go_enter Tryz.func35, Tryz.ntmps35
      go_wp2_with (first | (go_at_call 49; have _ := hb1; refine (HNM.out _).mono ?_; rintro e w2 ⟨rfl, rfl⟩) | (go_at_call 44; refine (HC.out _).mono ?_; rintro e w1 hp; rw [HT.out] at hp; obtain ⟨pa, pp, pl, pc, rfl, hb1, htr⟩ := hp.some; clear hp htr))
      go_ret
      exact ⟨ret_int HR.out.symm, hb1.alloc hb1.size _⟩
    | true =>
      have HR := hid ((usesOf_some hm hnb).trans (by rw [tm_free t [] m htm, uses_free name.toList hnb t []]) : usesOf s name = ((if hasB [] name.toList = true then 0 else t.uses name.toList : Nat) : Int))
      have HR2 := hid (show usesOf s name = (t.uses name.toList : Int) by rw [HR.out]; rfl)
      have hwt := parse_wt hpt
      have hok := hid (parse_ok hpt)
      have HSO := hid hso
      rw [hnb] at HNM
      clear ht hpt hso hm htm hnb
      go_enter Tryz.func35, Tryz.ntmps35
      go_wp2_with (first | (go_at_call 63; have _ := hb1; refine (HD.out _ ((Kept.refl _).alloc (Nat.le_refl _) _) (by simp)).mono ?_; rintro e w3 ⟨rfl, hb3⟩) | (go_at_call 49; have _ := hb1; refine (HNM.out _).mono ?_; rintro e w2 ⟨rfl, rfl⟩) | (go_at_call 44; refine (HC.out _).mono ?_; rintro e w1 hp; rw [HT.out] at hp; obtain ⟨pa, pp, pl, pc, rfl, hb1, htr⟩ := hp.some; clear hp; have HD := hid (fun W hk hs => l2Uses_any name htr hwt hok.out HSO.out W hk hs); clear htr))
      go_ret
      have s1 := hb1.size
      exact ⟨ret_int HR2.out.symm, hb1.trans (((Below.refl _ _).alloc s1 _).trans (hb3.mono (by simp; omega)))⟩

end Go.Proofs.YthpcmglnooemaaaGreatDoor

namespace Go.Proofs.YthpcmglnooemaaaGreatDoor
open Go.RowKit

theorem depthR_app (s : List UInt8) : ∀ (a b : List ByteArray) (n : Nat), hasB a s = true → depthR s (a ++ b) n = depthR s a n
  | [], b, n, h => by simp [hasB] at h
  | x :: a, b, n, h => by
    rw [List.cons_append, depthR, depthR]
    by_cases e : x.toList = s
    · rw [if_pos e, if_pos e]
    · rw [if_neg e, if_neg e]
      have e' : ¬ s = x.toList := fun h => e h.symm
      exact depthR_app s a b (n + 1) (by simpa [hasB, e'] using h)
theorem depthIn_app {s : List UInt8} {ar bd : List ByteArray} (h : hasB bd s = true) : depthIn s (ar ++ bd) = depthIn s bd := by
  unfold depthIn
  rw [List.reverse_append]
  exact depthR_app s _ _ 0 (by simpa [hasB] using h)
/-- What is closed among some names is the same term among more. -/
def ClosedOk (ar : List ByteArray) (p : Tree) : Prop := ∀ bd m, p.tm bd = some m → p.free bd = [] → p.tm (ar ++ bd) = some m
theorem parts_closed (ar bd : List ByteArray) (xs : List ByteArray) : ∀ (cs : List Sg) (ps : List Tree) (st st' : St) (b : Bool), (∀ p ∈ ps, ClosedOk ar p) → cs.length = ps.length → goodSh cs b = true → (b = false → st.binds = []) → xs = st.binds ++ xsOf cs ps → Tree.frees bd xs cs ps = [] →
    Tree.parts bd cs ps st = some st' → Tree.parts (ar ++ bd) cs ps st = some st'
  | [], [], st, st', b, _, _, _, _, _, _, h => by simp [Tree.parts] at h ⊢; exact h
  | c :: cs, p :: ps, st, st', b, ih, hl, hg, hb, hx, hfr, h => by
    have ih' : ∀ p ∈ ps, ClosedOk ar p := fun q hq => ih q (List.mem_cons_of_mem _ hq)
    have hl' : cs.length = ps.length := by simpa using hl
    rw [Tree.frees, List.append_eq_nil_iff] at hfr
    have kid : ∀ w, xsOf (c :: cs) (p :: ps) = xsOf cs ps → c.isK = true → ((cs.isEmpty || !b) && goodSh cs b) = true →
        (∀ a2 st1, Tree.parts a2 (c :: cs) (p :: ps) st1 = (match addK w (p.tm (a2 ++ st1.binds)) st1 with | some st' => Tree.parts a2 cs ps st' | none => none)) → Tree.parts (ar ++ bd) (c :: cs) (p :: ps) st = some st' := by
      intro w hxo hk hgg hp
      rw [hp] at h ⊢
      cases h1 : addK w (p.tm (bd ++ st.binds)) st with
      | none => rw [h1] at h; simp at h
      | some st1 =>
        rw [h1] at h
        simp only at h
        obtain ⟨m, ht, h3⟩ := addK_inv h1
        simp only [Bool.and_eq_true, Bool.or_eq_true] at hgg
        have hb1 : st1.binds = st.binds := by rw [h3]
        have hi := parts_closed ar bd xs cs ps st1 st' b ih' hl' hgg.2 (fun e => by rw [hb1]; exact hb e) (by rw [hb1, hx, hxo]) hfr.2 h
        have hf := hfr.1
        rw [if_pos hk] at hf
        have hfb : p.free (bd ++ st.binds) = [] := by
          by_cases hce : cs = []
          · rw [if_pos hce] at hf
            have hxb : xs = st.binds := by
              subst hce
              match ps, hl' with
              | [], _ => rw [hx, hxo]; simp [xsOf]
            rw [← hxb]; exact hf
          · rw [if_neg hce] at hf
            have : b = false := by
              rcases hgg.1 with h | h
              · simp at h; exact absurd h hce
              · simpa using h
            rw [hb this, List.append_nil]; exact hf
        have := ih p (List.mem_cons_self ..) _ _ ht hfb
        rw [List.append_assoc, this, ← ht, h1]
        exact hi
    cases c with
    | X =>
      rw [Tree.parts] at h ⊢
      cases h1 : addX p.text st with
      | none => rw [h1] at h; simp at h
      | some st1 =>
        rw [h1] at h
        have h2 := addX_inv h1
        exact parts_closed ar bd xs cs ps st1 st' true ih' hl' (by simpa [goodSh] using hg) (by simp) (by rw [hx, h2.2]; simp [xsOf]) hfr.2 h
    | A =>
      rw [Tree.parts] at h ⊢
      cases h1 : addT true p st with
      | none => rw [h1] at h; simp at h
      | some st1 =>
        rw [h1] at h
        obtain ⟨ty, ht, h2⟩ := addT_inv h1
        exact parts_closed ar bd xs cs ps st1 st' b ih' hl' (by simpa [goodSh] using hg) (fun e => by rw [h2]; exact hb e) (by rw [hx, h2]; simp [xsOf]) hfr.2 h
    | C =>
      rw [Tree.parts] at h ⊢
      cases h1 : addT false p st with
      | none => rw [h1] at h; simp at h
      | some st1 =>
        rw [h1] at h
        obtain ⟨ty, ht, h2⟩ := addT_inv h1
        exact parts_closed ar bd xs cs ps st1 st' b ih' hl' (by simpa [goodSh] using hg) (fun e => by rw [h2]; exact hb e) (by rw [hx, h2]; simp [xsOf]) hfr.2 h
    | V => exact kid true (by simp [xsOf]) rfl (by simpa only [goodSh] using hg) (fun a2 st1 => by rw [Tree.parts]; rfl)
    | M => exact kid false (by simp [xsOf]) rfl (by simpa only [goodSh] using hg) (fun a2 st1 => by rw [Tree.parts]; rfl)
theorem closed_tm (ar : List ByteArray) (t : Tree) : ClosedOk ar t := by
  intro bd m h hf
  match t with
  | .atom x =>
    rw [Tree.tm, atomTm] at h ⊢
    split at h
    · rename_i c; rw [if_pos c]; exact h
    · rename_i c0
      rw [if_neg c0]
      split at h
      · rename_i c
        rw [if_pos c]
        rw [Tree.free] at hf
        have hh : hasB bd x.toList = true := by
          cases e : hasB bd x.toList with
          | true => rfl
          | false => rw [if_pos ⟨c, e⟩] at hf; simp at hf
        rw [depthIn_app hh]; exact h
      · simp at h
  | .node [] => rw [Tree.tm] at h; simp at h
  | .node (q :: ps) =>
    obtain ⟨st, h1, h2, h3, rfl⟩ := tm_node h
    rw [Tree.free] at hf
    have := parts_closed ar bd (xsOf (shape q.text.toList) ps) _ ps St.none st false (fun p hp => closed_tm ar p) h2 (shape_good _) (fun _ => rfl) (by simp [St.none]) hf h3
    rw [Tree.tm, if_neg (fun e => by rcases e with e | e; exact h1 e; exact e h2), this]
termination_by t
decreasing_by
  have := List.sizeOf_lt_of_mem hp
  simp; omega
theorem closed_all {t : Tree} {m : Tm} (h : t.tm [] = some m) (hf : t.free [] = []) : ∀ ar, t.tm ar = some m := fun ar => by
  have := closed_tm ar t [] m h hf
  rwa [List.append_nil] at this

theorem puts_mem {s : List UInt8} {v : Tree} {xs : List ByteArray} : ∀ (cs : List Sg) (ps : List Tree) (x : Tree), x ∈ Tree.puts s v xs cs ps → ∃ p ∈ ps, x = p ∨ x = Tree.put s v p
  | [], ps, x, h => by rw [Tree.puts] at h; exact ⟨x, h, Or.inl rfl⟩
  | _ :: _, [], x, h => by rw [Tree.puts] at h; simp at h
  | c :: cs, p :: ps, x, h => by
    rw [Tree.puts] at h
    rcases List.mem_cons.1 h with h | h
    · refine ⟨p, List.mem_cons_self .., ?_⟩
      split at h
      · exact Or.inr h
      · exact Or.inl h
    · obtain ⟨q, hq, e⟩ := puts_mem cs ps x h
      exact ⟨q, List.mem_cons_of_mem _ hq, e⟩
theorem put_wk {s : List UInt8} {v : Tree} (hv : v.wk) (t : Tree) (h : t.wk) : (Tree.put s v t).wk := by
  match t with
  | .atom x => rw [Tree.put]; split; exact hv; exact h
  | .node [] => rw [Tree.put]; exact h
  | .node (q :: ps) =>
    rw [Tree.wk] at h
    have hm := wks_mem h.2
    rw [Tree.put, Tree.wk]
    refine ⟨by simp, wks_of fun x hx => ?_⟩
    rcases List.mem_cons.1 hx with rfl | hx
    · exact hm _ (List.mem_cons_self ..)
    · obtain ⟨p, hp, e⟩ := puts_mem _ _ _ hx
      have hw := hm p (List.mem_cons_of_mem _ hp)
      rcases e with e | e
      · rw [e]; exact hw
      · rw [e]; exact put_wk hv p hw
termination_by t
decreasing_by
  have := List.sizeOf_lt_of_mem hp
  simp; omega
/-- A tree's text tells the tree. -/
theorem write_inj {t u : Tree} (ht : t.wk) (hu : u.wk) (h : t.write = u.write) : t = u := by
  have h1 := rd_back t.txt (Nat.max t.dp u.dp) t 0 [] ht (Nat.le_max_left _ _) (by rw [List.drop_zero, List.append_nil]; rfl) (by intro b q e; cases e)
  have h2 := rd_back t.txt (Nat.max t.dp u.dp) u 0 [] hu (Nat.le_max_right _ _) (by rw [List.drop_zero, List.append_nil, ← h]; rfl) (by intro b q e; cases e)
  rw [h1] at h2
  simp only [Option.some.injEq, Prod.mk.injEq] at h2
  exact h2.1
theorem parse_txt {T t : Tree} (hT : T.wk) (h : parse T.txt = some t) : t = T :=
  (write_inj hT (parse_wk h).1 (by rw [← parse_write h]; rfl)).symm
/-- WHAT IS READ OF A TREE's TEXT. -/
theorem readTm_txt {T : Tree} {r : Tm} (hT : T.wk) (hr : T.tm [] = some r) : readTm T.txt = if (parse T.txt).isSome = true ∧ r.size ≤ 1500 then some r else none := by
  unfold readTm
  cases hp : parse T.txt with
  | none => simp
  | some t =>
    have := parse_txt hT hp
    subst this
    simp only [Option.isSome_some, true_and]
    rw [← tm_size t [] r hr]
    by_cases h : t.size ≤ 1500
    · rw [if_pos h, if_pos h]; exact hr
    · rw [if_neg h, if_neg h]
end Go.Proofs.YthpcmglnooemaaaGreatDoor

namespace Go.Proofs.YthpcmglnooemaaaGreatDoor
open Go.RowKit

/-- The closed value that a text is. -/
def clV (s : ByteArray) : Option Tm := match readTm s with
  | some m => if m.isVal = true ∧ m.free = [] then some m else none
  | none => none

set_option maxRecDepth 100000 in
set_option maxHeartbeats 2000000 in
theorem readClosedV_any (s : ByteArray) (hs : s.size ≤ 400000000) (w : World) : Calls Tryz.prog 57 #[.string s, .string strV, .slice none 0 0] w (TmPost (clV s) w) := by
  have HC := hid (fun W => readTermWithin_any s hs W)
  have q1 : (strC.toList == strV.toList) = false := by rw [Go.ByteArray.toList_eq, Go.ByteArray.toList_eq]; decide
  have q2 : (!strC.toList == strV.toList) = true := by rw [q1]; rfl
  have q3 : (strV.toList == strV.toList) = true := by simp
  have q4 : (!strV.toList == strV.toList) = false := by rw [q3]; rfl
  cases hr : readTm s with
  | none =>
    rw [hr] at HC
    rw [show clV s = none by rw [clV, hr]]
    clear hr
    go_enter Tryz.func57, Tryz.ntmps57
    go_wp2_with (go_at_call 70; refine (HC.out _).mono ?_; rintro e w1 hp; obtain ⟨rfl, hb1⟩ := hp.none; clear hp)
    go_ret2
    exact ⟨hb1, rfl⟩
  | some m =>
    rw [hr] at HC
    obtain ⟨_, _, _, _, hms⟩ := readTm_inv hr
    have HSO := hid (fun (W : World) (S : Nat → Prop) (a : Nat) (hn : NIn W S m a) => sort_node hn)
    have hcl : clV s = if m.isVal = true ∧ m.free = [] then some m else none := by rw [clV, hr]
    cases hv : m.isVal with
    | false =>
      rw [show clV s = none by rw [hcl, if_neg (fun h => by rw [hv] at h; cases h.1)]]
      rw [hv] at HSO
      simp only [vS] at HSO
      clear hr hv hms hcl
      go_enter Tryz.func57, Tryz.ntmps57
      go_wp2_with (first
        | (go_at_call 43; refine (HSO.out _ _ _ HN.out).mono ?_; rintro e w2 ⟨rfl, rfl⟩)
        | (go_at_call 70; refine (HC.out _).mono ?_; rintro e w1 hp; obtain ⟨a, rfl, hb1, hn1⟩ := hp.some; have HN := hid hn1; clear hp hn1))
      go_ret2
      exact ⟨hb1, rfl⟩
    | true =>
      rw [hv] at HSO
      simp only [vS] at HSO
      obtain ⟨n, hn⟩ : ∃ n, m.free.length = n := ⟨_, rfl⟩
      have HFR := hid (fun (W : World) (S : Nat → Prop) (a : Nat) (hna : NIn W S m a) => (show Calls Tryz.prog 51 #[.pointer (some ⟨a, 0, none⟩)] W fun e w' => ∃ q c, e = .returned (.slice q n c) ∧ Below W.heap.size W w' from (freeNames_any hna (by omega) W (Kept.refl _) (Nat.le_refl _)).mono fun e w' h => by
        obtain ⟨q, c, he, _, _, hb⟩ := h.full
        rw [hn] at he
        exact ⟨q, c, he, hb⟩))
      rcases Nat.eq_zero_or_pos n with h0 | h0
      · have hf : m.free = [] := List.length_eq_zero_iff.1 (hn.trans h0)
        subst h0
        rw [show clV s = some m by rw [hcl, if_pos ⟨hv, hf⟩]]
        clear hr hv hms hcl hf hn
        go_enter Tryz.func57, Tryz.ntmps57
        go_wp2_with (first
          | (go_at_call 51; refine (HFR.out _ _ _ HN.out).mono ?_; rintro e w3 ⟨q3, c3, rfl, hb3⟩)
          | (go_at_call 43; refine (HSO.out _ _ _ HN.out).mono ?_; rintro e w2 ⟨rfl, rfl⟩)
          | (go_at_call 70; refine (HC.out _).mono ?_; rintro e w1 hp; obtain ⟨a, rfl, hb1, hn1⟩ := hp.some; have HN := hid hn1; clear hp hn1))
        go_ret2
        exact ⟨hb1.trans (hb3.mono hb1.size), a, rfl, HN.out.keep (fun k _ hl => hb3.block k hl) (fun k hk _ => hk)⟩
      · have hf : m.free ≠ [] := fun h => by rw [h] at hn; simp at hn; omega
        rw [show clV s = none by rw [hcl, if_neg (fun h => hf h.2)]]
        clear hr hv hms hcl hf hn
        go_enter Tryz.func57, Tryz.ntmps57
        go_wp2_with (first
          | (go_at_call 51; refine (HFR.out _ _ _ HN.out).mono ?_; rintro e w3 ⟨q3, c3, rfl, hb3⟩)
          | (go_at_call 43; refine (HSO.out _ _ _ HN.out).mono ?_; rintro e w2 ⟨rfl, rfl⟩)
          | (go_at_call 70; refine (HC.out _).mono ?_; rintro e w1 hp; obtain ⟨a, rfl, hb1, hn1⟩ := hp.some; have HN := hid hn1; clear hp hn1))
        go_ret2
        exact ⟨hb1.trans (hb3.mono hb1.size), rfl⟩
end Go.Proofs.YthpcmglnooemaaaGreatDoor
