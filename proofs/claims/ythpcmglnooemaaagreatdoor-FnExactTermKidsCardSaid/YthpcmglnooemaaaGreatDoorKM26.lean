/- Merged: SizeP, SpecU0, PartT. -/
import Derived.Test.YthpcmglnooemaaaGreatDoorKM24
import Derived.Test.YthpcmglnooemaaaGreatDoorKMSSortT0
import Derived.Test.YthpcmglnooemaaaGreatDoorKMSHasS
import Derived.Test.YthpcmglnooemaaaGreatDoorKM19
namespace Go.Proofs.YthpcmglnooemaaaGreatDoor
open Go.RowKit

theorem termTree_none {s : ByteArray} (h : termTree s = none) : readTm s = none := by
  have h1 := termTree_read s
  rw [h] at h1
  cases hr : readTm s with
  | none => rfl
  | some m => rw [hr] at h1; simp at h1
theorem termTree_some {s : ByteArray} {t : Tree} (h : termTree s = some t) : parse s = some t ∧ t.srt ≠ none ∧ t.size ≤ 1500 ∧ ∃ m, readTm s = some m ∧ t.tm [] = some m := by
  have h1 := termTree_read s
  rw [h] at h1
  cases hr : readTm s with
  | none => rw [hr] at h1; simp at h1
  | some m =>
    obtain ⟨u, hp, hm, hs, _⟩ := readTm_inv hr
    unfold termTree at h
    rw [hp] at h; simp only at h
    split at h
    · rename_i hc; simp at h; subst h; exact ⟨hp, hc.1, hs, m, rfl, hm⟩
    · simp at h
end Go.Proofs.YthpcmglnooemaaaGreatDoor

namespace Go.Proofs.YthpcmglnooemaaaGreatDoor
open Go.RowKit

set_option maxRecDepth 100000 in
set_option maxHeartbeats 1000000 in
theorem l2Inner_any (q : Tree) (b n cap i : Nat) (a : ByteArray) (c : Sg) (w : World) (hc0 : w.cell? ⟨b, 0, none⟩ = some (.string q.text)) (hn : 0 < n) (hcs : (shape q.text.toList)[i]? = some c) :
    Calls Tryz.prog 53 #[.agg #[.string a, .slice (some ⟨b, 0, none⟩) n cap], .int .i64 ((i : Int) + 1)] w fun e w' => e = .returned (.bool c.isK) ∧ Below w.heap.size w w' := by
  have HF := hid (fun W => l2Shape_any q.text W)
  have hi4 : i < 4 := by have := (List.getElem?_eq_some_iff.1 hcs).1; have := shape_four q.text.toList; omega
  have hFs := loS_size (shape q.text.toList)
  have HFG := hid (fun hi => loS_get (shape q.text.toList) i c hcs hi)
  have hil := (List.getElem?_eq_some_iff.1 hcs).1
  obtain ⟨F, hF⟩ : ∃ F, loS (shape q.text.toList) = F := ⟨_, rfl⟩
  rw [hF] at HF hFs HFG
  have hif : i < F.size := by omega
  have hfc := HFG.out hif
  have kc : ∀ o, (w.alloc o).cell? ⟨b, 0, none⟩ = some (.string q.text) := fun o => (World.cell?_of_block (w := w) (heap_alloc_old w o (World.block_lt_of_cell? w _ hc0))).trans hc0
  have f3 : F.size ≤ 4 := by have := shape_four q.text.toList; omega
  clear hF hFs HFG hil hcs hc0
  cases c with
  | V =>
    have e1 : F[i] = 118 := hfc
    clear hfc
    go_enter Tryz.func53, Tryz.ntmps53
    go_wp2_with (go_at_call 73; refine (HF.out _).mono ?_; rintro e w2 ⟨rfl, rfl⟩)
    go_ret
    exact ⟨ret_bool rfl, (Below.refl _ _).alloc (Nat.le_refl _) _⟩
  | M =>
    have e1 : F[i] = 109 := hfc
    clear hfc
    go_enter Tryz.func53, Tryz.ntmps53
    go_wp2_with (go_at_call 73; refine (HF.out _).mono ?_; rintro e w2 ⟨rfl, rfl⟩)
    go_ret
    exact ⟨ret_bool rfl, (Below.refl _ _).alloc (Nat.le_refl _) _⟩
  | X =>
    have e1 : F[i] = 120 := hfc
    clear hfc
    go_enter Tryz.func53, Tryz.ntmps53
    go_wp2_with (go_at_call 73; refine (HF.out _).mono ?_; rintro e w2 ⟨rfl, rfl⟩)
    go_ret
    exact ⟨ret_bool rfl, (Below.refl _ _).alloc (Nat.le_refl _) _⟩
  | A =>
    have e1 : F[i] = 97 := hfc
    clear hfc
    go_enter Tryz.func53, Tryz.ntmps53
    go_wp2_with (go_at_call 73; refine (HF.out _).mono ?_; rintro e w2 ⟨rfl, rfl⟩)
    go_ret
    exact ⟨ret_bool rfl, (Below.refl _ _).alloc (Nat.le_refl _) _⟩
  | C =>
    have e1 : F[i] = 99 := hfc
    clear hfc
    go_enter Tryz.func53, Tryz.ntmps53
    go_wp2_with (go_at_call 73; refine (HF.out _).mono ?_; rintro e w2 ⟨rfl, rfl⟩)
    go_ret
    exact ⟨ret_bool rfl, (Below.refl _ _).alloc (Nat.le_refl _) _⟩
end Go.Proofs.YthpcmglnooemaaaGreatDoor

namespace Go.Proofs.YthpcmglnooemaaaGreatDoor
open Go.RowKit

/-- The texts of the parts of a tree in memory. -/
theorem part_texts {w0 : World} {S : Nat → Prop} {q : Tree} {qs : List Tree} {b n : Nat} {A : Nat → Hd} (hn : qs.length = n) (hA : ∀ i, i < n + 1 → w0.cell? ⟨b, i * 2, none⟩ = some (.string (A i).a)) (hps : ∀ i p, (q :: qs)[i]? = some p → TIn w0 S p (A i)) :
    w0.cell? ⟨b, 0, none⟩ = some (.string q.text) ∧ ∀ k p, qs[k]? = some p → w0.cell? ⟨b, (k + 1) * 2, none⟩ = some (.string p.text) := by
  refine ⟨?_, fun k p hp => ?_⟩
  · have := hA 0 (by omega)
    rw [(hps 0 q rfl).text] at this; simpa using this
  · have hk := (List.getElem?_eq_some_iff.1 hp).1
    have := hA (k + 1) (by omega)
    rw [(hps (k + 1) p (by simpa using hp)).text] at this; exact this
end Go.Proofs.YthpcmglnooemaaaGreatDoor
