/- Merged: SwpT. -/
import Derived.Test.YthpcmglnooemaaaGreatDoorVASSwpS
namespace Go.Proofs.YthpcmglnooemaaaGreatDoor
open Go.RowKit

/-- A TEXT IN THE PLACE OF ATOMS, BY THE MODEL. -/
theorem l91Swap_any (f : ByteArray) {w0 : World} {S S2 : Nat → Prop} {vt : Tree} {vh : Hd} (hv : TIn w0 S2 vt vh) {t : Tree} {h : Hd} (ht : TIn w0 S t h) (hf : f.size ≠ 0) : t.wt ≤ 40000 → SwpAsk f w0 vt vh t h := by
  induction ht with
  | atom a hne hm =>
    intro _ w hk hw
    cases hq : a.toList == f.toList with
    | true =>
      have hs : Tree.swap f.toList vt (.atom a) = vt := by rw [Tree.swap, if_pos (by simpa using hq)]
      rw [hs]; exact swp_true f a hv hq none 0 0 w hk hw
    | false =>
      have hs : Tree.swap f.toList vt (.atom a) = .atom a := by rw [Tree.swap, if_neg (by simpa using hq)]
      rw [hs]
      refine (swp_go f a (vt := vt) (vh := vh) (w0 := w0) (A := fun _ => default) hq (ps := []) (pp := none) (n := 0) (cap := 0) rfl (by omega) (fun h => by omega) (fun i p h => by simp at h) w hk hw).mono ?_
      rintro e w' ⟨p, l, c, rfl, _, hz, hb⟩
      obtain ⟨rfl, rfl, rfl⟩ := hz rfl
      exact ⟨⟨a, none, 0, 0⟩, rfl, .atom a hne hm, hb⟩
  | node ps b cap A hp hl hc hS hA hB hps ih =>
    intro hwt w hk hw
    rw [Tree.wt] at hwt
    have hpl := wts_length ps
    have hq : ((ByteArray.empty : ByteArray).toList == f.toList) = false := by
      have h2 := isEmpty_not f hf
      rw [empty_toList]
      cases e : f.toList with
      | nil => rw [e] at h2; cases h2
      | cons x l => rfl
    have hs : Tree.swap f.toList vt (.node ps) = .node (Tree.swaps f.toList vt ps) := by rw [Tree.swap]
    rw [hs]
    refine (swp_go f ByteArray.empty (vt := vt) (vh := vh) hq (ps := ps) (pp := some ⟨b, 0, none⟩) (n := ps.length) (cap := cap) (A := A) rfl (by omega) (fun _ => ⟨b, rfl, hA, hB⟩) (fun i p hp => ih i p hp (by have := wt_part ps i p hp; omega)) w hk hw).mono ?_
    rintro e w' ⟨p, l, c, rfl, hacc, _, hb⟩
    have hn := hacc.node (by rw [swaps_map, List.length_map]; exact hp)
    refine ⟨⟨ByteArray.empty, p, l, c⟩, rfl, hn.keep (fun _ _ _ => rfl) (fun k hk _ => by omega), hb⟩
end Go.Proofs.YthpcmglnooemaaaGreatDoor
