/- A draw of a term that often has a type, seldom another text: l91Odd. -/
import Derived.Test.YthpcmglnooemaaaGreatDoorUNDrwQ
import Derived.Test.YthpcmglnooemaaaGreatDoorUNAtmS
import Derived.Test.YthpcmglnooemaaaGreatDoorUNSwpT
import Derived.Test.YthpcmglnooemaaaGreatDoorUM11
import Derived.Test.YthpcmglnooemaaaGreatDoorUMSSortT0
import Derived.Test.YthpcmglnooemaaaGreatDoorUM32
namespace Go.Proofs.YthpcmglnooemaaaGreatDoor
open Go.RowKit

mutual
theorem swap_len (f : List UInt8) (to : Tree) : ∀ t : Tree, (Tree.swap f to t).write.length ≤ t.write.length + t.size * to.write.length ∧ (Tree.swap f to t).wt ≤ t.wt + t.size * to.wt
  | .atom s => by
    rw [Tree.swap, Tree.size]
    split
    · exact ⟨by omega, by omega⟩
    · exact ⟨by omega, by omega⟩
  | .node [] => by
    rw [Tree.swap, Tree.swaps]
    exact ⟨by omega, by omega⟩
  | .node (p :: ps) => by
    have h1 := swap_len f to p
    have h2 := swaps_len f to ps
    rw [Tree.swap, Tree.swaps, Tree.write, Tree.write, Tree.size, Tree.sizes, Tree.wt, Tree.wt, Tree.wts, Tree.wts, Nat.add_mul, Nat.add_mul]
    simp only [List.length_cons, List.length_append, List.length_nil]
    exact ⟨by omega, by omega⟩
theorem swaps_len (f : List UInt8) (to : Tree) : ∀ ps : List Tree, (Tree.writes (Tree.swaps f to ps)).length ≤ (Tree.writes ps).length + Tree.sizes ps * to.write.length ∧ Tree.wts (Tree.swaps f to ps) ≤ Tree.wts ps + Tree.sizes ps * to.wt
  | [] => by rw [Tree.swaps]; exact ⟨by omega, by omega⟩
  | p :: ps => by
    have h1 := swap_len f to p
    have h2 := swaps_len f to ps
    rw [Tree.swaps, Tree.writes, Tree.writes, Tree.sizes, Tree.wts, Tree.wts, Nat.add_mul, Nat.add_mul]
    simp only [List.length_cons, List.length_append]
    exact ⟨by omega, by omega⟩
end
def toL : List ByteArray := [⟨#[97]⟩, ⟨#[49]⟩, ⟨#[120]⟩, ⟨#[98]⟩, ⟨#[102, 115, 116]⟩, ⟨#[114, 101, 116, 117, 114, 110]⟩, ⟨#[40, 116, 104, 117, 110, 107, 32, 40, 114, 101, 116, 117, 114, 110, 32, 48, 41, 41]⟩, ⟨#[107, 51]⟩]
theorem toL_parse : ∀ s ∈ toL, s.size ≤ 18 ∧ ∃ t, parse s = some t := by
  intro s hs
  have key : ∀ s ∈ toL, (parse s).isSome = true := by
    intro s hs
    simp only [toL, List.mem_cons, List.mem_nil_iff, or_false] at hs
    rcases hs with rfl | rfl | rfl | rfl | rfl | rfl | rfl | rfl <;> kernel_rfl
  refine ⟨?_, Option.isSome_iff_exists.1 (key s hs)⟩
  simp only [toL, List.mem_cons, List.mem_nil_iff, or_false] at hs
  rcases hs with rfl | rfl | rfl | rfl | rfl | rfl | rfl | rfl <;> decide
theorem toL_lit {w : World} {g : Nat} (h : w.heap.size = g) : SV (w.alloc (.cells #[.string ⟨#[97]⟩, .string ⟨#[49]⟩, .string ⟨#[120]⟩, .string ⟨#[98]⟩, .string ⟨#[102, 115, 116]⟩, .string ⟨#[114, 101, 116, 117, 114, 110]⟩, .string ⟨#[40, 116, 104, 117, 110, 107, 32, 40, 114, 101, 116, 117, 114, 110, 32, 48, 41, 41]⟩, .string ⟨#[107, 51]⟩] 9)) (some ⟨g, 0, none⟩) 8 8 toL := by subst h; exact sv_lit w toL 8 8 9 rfl
def endL : List ByteArray := [⟨#[32]⟩, ⟨#[41]⟩, ⟨#[]⟩]
theorem endL_small : ∀ s ∈ endL, s.size ≤ 1 := by intro s hs; simp only [endL, List.mem_cons, List.mem_nil_iff, or_false] at hs; rcases hs with rfl | rfl | rfl <;> decide
theorem endL_lit {w : World} {g : Nat} (h : w.heap.size = g) : SV (w.alloc (.cells #[.string ⟨#[32]⟩, .string ⟨#[41]⟩, .string ⟨#[]⟩] 9)) (some ⟨g, 0, none⟩) 3 3 endL := by subst h; exact sv_lit w endL 3 3 9 rfl
theorem empty_row (w : World) : (w.alloc (.cells #[] 9)).ownsRow w.heap.size 9 1 (.slice (some ⟨w.heap.size, 0, none⟩) 0 0) 0 (([] : List ByteArray).map Value.string) := own_empty w w.heap.size (Nat.le_refl _)

set_option maxRecDepth 100000 in
set_option maxHeartbeats 2000000 in
theorem l91Tree_any (s : ByteArray) (hs : s.size ≤ 18) {t : Tree} (hp : parse s = some t) (w : World) : Calls Tryz.prog 69 #[.string s] w fun e w' => ∃ h : Hd, e = .returned (.agg #[.string h.a, .slice h.p h.l h.c]) ∧ TIn w' (fun b => w.heap.size ≤ b) t h ∧ Below w.heap.size w w' := by
  have HC := hid (fun W => l1Parse_any s (by omega) W)
  rw [hp] at HC
  go_enter Tryz.func69, Tryz.ntmps69
  go_wp2_with fail
  go_at_call 71
  refine (HC.out _).mono ?_
  rintro e w1 hp1
  obtain ⟨a, p, l, c, rfl, hb1, ht1⟩ := hp1.some
  have HT := hid ht1
  have HB := hid hb1
  have hr2 : w1.heap[w.heap.size]? = some (.cells #[.string ⟨#[]⟩, .slice none 0 0] 49 (0, 0)) := (hb1.block _ (by simp)).trans (heap_new w _ _ rfl)
  have HR2 := hid hr2
  obtain ⟨⟨r0, r1⟩, ⟨fr0, fr1⟩, l5⟩ := box2g hr2
  have hws : w.heap.size < w1.heap.size := by have := hb1.size; simp at this; omega
  clear hp1 ht1 hb1 hr2
  go_wp2_with fail
  have hres := pair_alloc (pair_setCell1 (u := .slice p l c) (pair_setCell0 (u := .string a) HR2.out)) (.cells #[.string a, .slice p l c] 49)
  obtain ⟨g0, g1, _, _⟩ := cells_of_pair hres
  refine bodyPost_ret (v := .agg #[.string a, .slice p l c]) (by simp [results, Tryz.results69, go_sem, g0, g1]) rfl ?_
  have hz : ((w1.setCell ⟨w.heap.size, 0, none⟩ (.string a)).setCell ⟨w.heap.size, 1, none⟩ (.slice p l c)).heap.size = w1.heap.size := by simp [World.setCell]
  refine ⟨⟨a, p, l, c⟩, rfl, ?_, ?_⟩
  · refine HT.out.keep (fun k hk hl => ?_) (fun k hk _ => by simp at hk; omega)
    have hk2 : w.heap.size + 1 ≤ k := by simpa using hk
    exact (heap_alloc_old _ _ (by rw [hz]; exact hl)).trans ((Below.heap_setCell (w1.setCell ⟨w.heap.size, 0, none⟩ (.string a)) ⟨w.heap.size, 1, none⟩ _ k (by show k ≠ w.heap.size; omega)).trans (Below.heap_setCell w1 ⟨w.heap.size, 0, none⟩ _ k (by show k ≠ w.heap.size; omega)))
  · have h1 : Below w.heap.size w w1 := ((Below.refl _ _).alloc (Nat.le_refl _) _).trans (HB.out.mono (by simp))
    exact (show Below w.heap.size w ((w1.setCell ⟨w.heap.size, 0, none⟩ (.string a)).setCell ⟨w.heap.size, 1, none⟩ (.slice p l c)) from (h1.setCell (Nat.le_refl _) _).setCell (Nat.le_refl _) _).alloc (by rw [hz]; omega) _

end Go.Proofs.YthpcmglnooemaaaGreatDoor
