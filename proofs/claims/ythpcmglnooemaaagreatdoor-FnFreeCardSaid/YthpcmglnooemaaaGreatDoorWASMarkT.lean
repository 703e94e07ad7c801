/- Merged: MarkT. -/
import Derived.Test.YthpcmglnooemaaaGreatDoorWAr
import Derived.Test.YthpcmglnooemaaaGreatDoorWASConcatP
namespace Go.Proofs.YthpcmglnooemaaaGreatDoor
open Go.RowKit

set_option maxRecDepth 100000 in
theorem markStrings_nil (p : Option Addr) (c k : Nat) (w : World) :
    Calls Tryz.prog 38 #[.slice p 0 c, .int .i64 (k : Int)] w fun e w' => e = .returned (.int .i64 (k : Int)) ∧ Below w.heap.size w w' := by
  go_enter Tryz.func38, Tryz.ntmps38
  go_wp2_with fail
  refine wp_loop_rounds 1 ?_
  rw [rounds_succ]
  go_wp2_with fail
  go_ret
  exact ⟨rfl, Below.refl _ _⟩
/-- What marking a result leaves. -/
def MarkPost (B n : Nat) (q : Option Addr) (w : World) (e : Ending) (w' : World) : Prop := e = .returned (.int .i64 ((1 : Int) + n)) ∧ Vals w' q (marks 1 n) ∧ Below B w w' ∧ (∀ b o, q = some ⟨b, o, none⟩ → b < w'.heap.size)
theorem mark_any {w : World} {B n c : Nat} {q : Option Addr} {xs : List Value} (hn : n ≤ 100000) (hown : w.ownsRow B 9 1 (.slice q n c) n xs) (hB : B ≤ w.heap.size) : Calls Tryz.prog 38 #[.slice q n c, .int .i64 1] w (MarkPost B n q w) := by
  rcases hown.2 with ⟨hv, hn0⟩ | ⟨g, cap, cur, hv, hbg, hg, hnc, _⟩
  · subst hn0
    refine (markStrings_nil q c 1 w).mono ?_
    rintro e w' ⟨rfl, hb⟩
    refine ⟨rfl, fun i v h => by simp [marks] at h, hb.mono hB, ?_⟩
    intro b o e
    have : q = none := by simp at hv; exact hv.1
    rw [this] at e; cases e
  · obtain ⟨rfl, rfl⟩ : q = some ⟨g, 0, none⟩ ∧ c = cap := by simp at hv; exact hv
    refine (markStrings_own xs B g n c 1 w (by decide) (by omega) hown hB hbg).mono ?_
    rintro e w' ⟨rfl, hown', hb⟩
    refine ⟨rfl, vals_own hown', hb, ?_⟩
    intro b o e
    simp at e
    have := lt_of_block hg
    have := hb.size
    omega
theorem vals_below {w w' : World} {q : Option Addr} {l : List Value} {B : Nat} (h : Vals w q l) (hb : Below B w w') (hq : ∀ b o, q = some ⟨b, o, none⟩ → b < B) : Vals w' q l := fun i v hv =>
  let ⟨b, o, hp, hc⟩ := h i v hv
  ⟨b, o, hp, (hb.cell (p := ⟨b, o + i, none⟩) (hq b o hp)).trans hc⟩
theorem own_under {w : World} {base : Nat} {e : TypeId} {q : Option Addr} {n c : Nat} {xs : List Value} (h : w.ownsRow base e 1 (.slice q n c) n xs) : ∀ b o, q = some ⟨b, o, none⟩ → b < w.heap.size := fun b o e => (own_lt h b o e).2
theorem vals_str {w : World} {base : Nat} {e : TypeId} {q : Option Addr} {n c : Nat} {l : List ByteArray} (h : w.ownsRow base e 1 (.slice q n c) n (l.map Value.string)) : Vals w q (l.map .string) := by
  intro i v hv
  obtain ⟨s, hs, rfl⟩ : ∃ s, l[i]? = some s ∧ Value.string s = v := by simpa using hv
  obtain ⟨g, hp, hc⟩ := (sv_own h).2.2 i s hs
  exact ⟨g, 0, hp, by simpa using hc⟩
/-- What a function leaves that returns a list of texts of its own and whether it is one. -/
def ListPost (o : Option (List ByteArray)) (w : World) (e : Ending) (w' : World) : Prop :=
  (∃ q c, e = .returned (.tuple #[.slice q (o.getD []).length c, .bool o.isSome]) ∧ w'.ownsRow w.heap.size 9 1 (.slice q (o.getD []).length c) (o.getD []).length ((o.getD []).map Value.string)) ∧ Below w.heap.size w w'
theorem ListPost.of {l : List ByteArray} {b : Bool} {o : Option (List ByteArray)} {w w' : World} {e : Ending} (hl : o.getD [] = l) (hb : o.isSome = b)
    (h : (∃ q c, e = .returned (.tuple #[.slice q l.length c, .bool b]) ∧ w'.ownsRow w.heap.size 9 1 (.slice q l.length c) l.length (l.map Value.string)) ∧ Below w.heap.size w w') : ListPost o w e w' := by
  subst hl; subst hb; exact h
end Go.Proofs.YthpcmglnooemaaaGreatDoor
