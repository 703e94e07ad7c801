/- TermHead. -/
import Derived.Test.YtodjmbfhkklpaaaDoorSortT0
namespace Go.Proofs.YtodjmbfhkklpaaaDoor
open Go.RowKit

def Tm.hd : Tm → ByteArray
  | .mk hd _ _ _ _ _ => hd
theorem NIn.hd {w : World} {S : Nat → Prop} {m : Tm} {b : Nat} (h : NIn w S m b) : w.cell? ⟨b, 0, none⟩ = some (.string m.hd) := by
  cases h with
  | mk hd a d bs ty ks b bp bl bc kp kl kc A hS0 hb0 _ _ _ _ _ _ => exact (cells_of_six hb0).1
theorem TIn.node_head {w : World} {S : Nat → Prop} {q : Tree} {qs : List Tree} {a : ByteArray} {p : Option Addr} {l c : Nat} (h : TIn w S (.node (q :: qs)) ⟨a, p, l, c⟩) : ∃ b : Nat, a = ByteArray.empty ∧ p = some ⟨b, 0, none⟩ ∧ 0 < l ∧ w.cell? ⟨b, 0, none⟩ = some (.string q.text) := by
  cases h with
  | node ps b cap A hp hl hc hS hA hB hps =>
    have h0 := hA 0 hp
    rw [(hps 0 q rfl).text] at h0
    exact ⟨b, rfl, rfl, hp, by simpa using h0⟩
/-- What TermHead answers. -/
def headOf (s : ByteArray) : ByteArray := match readTm s with
  | some m => m.hd
  | none => ByteArray.empty
theorem headOf_none {s : ByteArray} (h : readTm s = none) : headOf s = ByteArray.empty := by rw [headOf, h]
theorem headOf_some {s : ByteArray} {m : Tm} (h : readTm s = some m) : headOf s = m.hd := by rw [headOf, h]
theorem headOf_tree {s : ByteArray} {t : Tree} (h : termTree s = some t) : parse s = some t ∧ ∃ m, t.tm [] = some m ∧ headOf s = m.hd := by
  have h1 := termTree_read s
  obtain ⟨hp, _⟩ := termTree_sort h
  rw [h] at h1
  refine ⟨hp, ?_⟩
  cases hr : readTm s with
  | none => rw [hr] at h1; simp at h1
  | some m =>
    refine ⟨m, ?_, headOf_some hr⟩
    rw [readTm, hp] at hr
    simp only at hr
    split at hr
    · exact hr
    · simp at hr
theorem headOf_no {s : ByteArray} (h : termTree s = none) : headOf s = ByteArray.empty := by
  have h1 := termTree_read s
  rw [h] at h1
  cases hr : readTm s with
  | none => exact headOf_none hr
  | some m => rw [hr] at h1; simp at h1
theorem hd_name {s : ByteArray} {m : Tm} (h : Tree.tm [] (.atom s) = some m) (hn : nameB s.toList = true) : m.hd = strName := by
  rw [Tree.tm, atomTm] at h
  rw [if_neg (fun e => by rcases e with e | e <;> (rw [e] at hn; revert hn; decide)), if_pos hn] at h
  simp at h; subst h; rfl
theorem hd_bit {s : ByteArray} {m : Tm} (h : Tree.tm [] (.atom s) = some m) (hn : nameB s.toList = false) : m.hd = strBit := by
  rw [Tree.tm, atomTm] at h
  by_cases h1 : s.toList = [48] ∨ s.toList = [49]
  · rw [if_pos h1] at h; simp at h; subst h; rfl
  · rw [if_neg h1, if_neg (by rw [hn]; simp)] at h; simp at h
theorem hd_node {q : Tree} {qs : List Tree} {m : Tm} (h : Tree.tm [] (.node (q :: qs)) = some m) : m.hd = q.text := by
  rw [Tree.tm] at h
  split at h
  · simp at h
  · split at h
    · simp at h; subst h; rfl
    · simp at h

set_option maxRecDepth 100000 in
set_option maxHeartbeats 1000000 in
theorem implTermHead_any (s : ByteArray) (hs : s.size ≤ 400000000) (w : World) : Calls Tryd.prog 17 #[.string s] w fun e w' => e = .returned (.string (headOf s)) ∧ Below w.heap.size w w' := by
  have HC := hid (fun W => readTerm_any s hs W)
  cases hr : readTm s with
  | none =>
    have HR := hid hr
    have HS := hid (headOf_none hr)
    clear hr
    go_enter Tryd.func17, Tryd.ntmps17
    go_wp2_with (go_at_call 20; refine (HC.out _).mono ?_; rintro e w1 hp; rw [HR.out] at hp; obtain ⟨rfl, hb1⟩ := hp.none; clear hp)
    go_ret
    exact ⟨ret_str HS.out.symm, hb1⟩
  | some m =>
    have HR := hid hr
    have HS := hid (headOf_some hr)
    clear hr
    go_enter Tryd.func17, Tryd.ntmps17
    go_wp2_with (go_at_call 20; refine (HC.out _).mono ?_; rintro e w1 hp; rw [HR.out] at hp; obtain ⟨b, rfl, hb1, hn1⟩ := hp.some; clear hp; have hc1 := hn1.hd; clear hn1)
    go_ret
    exact ⟨ret_str HS.out.symm, hb1⟩

set_option maxRecDepth 100000 in
set_option maxHeartbeats 1000000 in
theorem specTermHead_any (s : ByteArray) (hs : s.size ≤ 400000000) (w : World) : Calls Tryd.prog 16 #[.string s] w fun e w' => e = .returned (.string (headOf s)) ∧ Below w.heap.size w w' := by
  have HC := hid (fun W => l2Term_any s hs W)
  cases ht : termTree s with
  | none =>
    have HR := hid (headOf_no ht)
    have HT := hid ht
    clear ht
    go_enter Tryd.func16, Tryd.ntmps16
    go_wp2_with (go_at_call 18; refine (HC.out _).mono ?_; rintro e w1 hp; rw [HT.out] at hp; obtain ⟨pa, pp, pl, pc, rfl, hpl, hb1⟩ := hp.none; clear hp)
    go_ret
    exact ⟨ret_str (by rw [HR.out]; rfl), hb1.alloc hb1.size _⟩
  | some t =>
    obtain ⟨hpt, m, hm, hho⟩ := headOf_tree ht
    have hok := parse_ok hpt
    have HT := hid ht
    clear ht hpt
    cases t with
    | atom a =>
      have hsm : a.size ≤ 400000000 := by have := hok.1; omega
      have HN := hid (fun W => l2Name_any a hsm W)
      cases e2 : nameB a.toList with
      | true =>
        have HR := hid (hho.trans (hd_name hm e2))
        have HE := hid e2
        clear hm hho e2 hok
        go_enter Tryd.func16, Tryd.ntmps16
        go_wp2_with (first | (go_at_call 18; refine (HC.out _).mono ?_; rintro e w1 hp; rw [HT.out] at hp; obtain ⟨pa, pp, pl, pc, rfl, hb1, htr⟩ := hp.some; clear hp; obtain ⟨rfl, rfl, rfl, rfl, hne⟩ := htr.atom_inv; have he := isEmpty_not pa hne; clear htr) | (go_at_call 27; refine (HN.out _).mono ?_; rintro e w2 ⟨rfl, rfl⟩; rw [HE.out]))
        go_ret
        exact ⟨ret_str (by rw [HR.out]; rfl), hb1.alloc hb1.size _⟩
      | false =>
        have HR := hid (hho.trans (hd_bit hm e2))
        have HE := hid e2
        clear hm hho e2 hok
        go_enter Tryd.func16, Tryd.ntmps16
        go_wp2_with (first | (go_at_call 18; refine (HC.out _).mono ?_; rintro e w1 hp; rw [HT.out] at hp; obtain ⟨pa, pp, pl, pc, rfl, hb1, htr⟩ := hp.some; clear hp; obtain ⟨rfl, rfl, rfl, rfl, hne⟩ := htr.atom_inv; have he := isEmpty_not pa hne; clear htr) | (go_at_call 27; refine (HN.out _).mono ?_; rintro e w2 ⟨rfl, rfl⟩; rw [HE.out]))
        go_ret
        exact ⟨ret_str (by rw [HR.out]; rfl), hb1.alloc hb1.size _⟩
    | node ps =>
      cases ps with
      | nil => rw [Tree.tm] at hm; cases hm
      | cons q qs =>
        have HR := hid (hho.trans (hd_node hm))
        clear hm hho hok
        obtain ⟨n, hn⟩ : ∃ n, (q :: qs).length = n := ⟨_, rfl⟩
        have HN := hid hn
        go_enter Tryd.func16, Tryd.ntmps16
        go_wp2_with (go_at_call 18; refine (HC.out _).mono ?_; rintro e w1 hp; rw [HT.out] at hp; obtain ⟨pa, pp, pl, pc, rfl, hb1, htr⟩ := hp.some; clear hp; have hx := htr.node_head; obtain ⟨b, rfl, rfl, h0, hc0⟩ := hx; have d0 : (0 : Int) < (pl : Int) := (by omega); have kc : ∀ o, (w1.alloc o).cell? ⟨b, 0, none⟩ = some (.string q.text) := (fun o => (World.cell?_of_block (w := w1) (heap_alloc_old w1 o (World.block_lt_of_cell? w1 _ hc0))).trans hc0); clear htr)
        go_ret
        exact ⟨ret_str (by rw [HR.out]), hb1.alloc hb1.size _⟩

set_option maxHeartbeats 1000000 in
theorem lawTermHead (s : ByteArray) (hs : s.size ≤ 9223372036854775807) (w : World) : Calls Tryd.prog 6 #[.string s] w fun e w' => e = .returned (.bool true) ∧ Below w.heap.size w w' := by
  by_cases h : s.size ≤ 1048576
  · have HA := hid (fun W => specTermHead_any s (by omega) W)
    have HB := hid (fun W => implTermHead_any s (by omega) W)
    have hq : (!(headOf s).toList == (headOf s).toList) = false := by simp
    go_enter Tryd.func6, Tryd.ntmps6
    go_wp2_with (first | (go_at_call 16; refine (HA.out _).mono ?_; rintro e w1 ⟨rfl, hb1⟩) | (go_at_call 17; refine (HB.out _).mono ?_; rintro e w2 ⟨rfl, hb2⟩))
    go_ret
    exact ⟨rfl, hb1.trans (hb2.mono hb1.size)⟩
  · have h2 : 1048576 < s.size := by omega
    clear h
    go_enter Tryd.func6, Tryd.ntmps6
    go_wp2
    go_ret
    exact ⟨rfl, Below.refl _ _⟩
end Go.Proofs.YtodjmbfhkklpaaaDoor
