/- TermOf: the law, walked. -/
import Derived.Test.YtfogjomebcponaaDoorOfS
import Derived.Test.YtfogjomebcponaaDoorTyR0
namespace Go.Proofs.YtfogjomebcponaaDoor
open Go.RowKit

theorem readTy_atoms {s : ByteArray} {ty : Ty} (h : readTy s = some ty) : ty.atoms ≤ 12 := by
  unfold readTy at h
  cases hp : parse s with
  | none => rw [hp] at h; simp at h
  | some t =>
    rw [hp] at h; simp only at h
    split at h
    · rename_i hc; rw [← ty_size t ty h]; exact hc
    · simp at h
/-- What TermOf answers. -/
def ofText (o : Option Ty) : ByteArray := match o with
  | some t => SW t
  | none => ByteArray.empty
def OfPost (o : Option Ty) (w : World) (e : Ending) (w' : World) : Prop := e = .returned (.tuple #[.string (ofText o), .bool o.isSome]) ∧ Below w.heap.size w w'

set_option maxRecDepth 100000 in
set_option maxHeartbeats 1000000 in
theorem specTermOf_any (s : ByteArray) (hs : s.size ≤ 400000000) (w : World) : Calls Tryd.prog 5 #[.string s] w (OfPost (readTy s) w) := by
  have HC := hid (fun W => l1Type_any s hs W)
  cases ht : typeTree s with
  | none =>
    rw [typeTree_none ht]
    have HT := hid ht
    clear ht
    go_enter Tryd.func5, Tryd.ntmps5
    go_wp2_with (go_at_call 9; refine (HC.out _).mono ?_; rintro e w1 hp; rw [HT.out] at hp; obtain ⟨pa, pp, pl, pc, rfl, hpl, hb1⟩ := hp.none; clear hp)
    go_ret2
    exact ⟨rfl, hb1.alloc hb1.size _⟩
  | some t =>
    obtain ⟨hp, hsz, ty, hty, hr, _⟩ := typeTree_some ht
    rw [hr]
    have hat := readTy_atoms hr
    have hwt := parse_wt hp
    have HT := hid ht
    have HTY := hid hty
    clear ht hp hr hty
    go_enter Tryd.func5, Tryd.ntmps5
    go_wp2_with (first | (go_at_call 10; have _ := hb1; refine (HD.out _ ((Kept.refl _).alloc (Nat.le_refl _) _) (by simp)).mono ?_; rintro e w2 ⟨rfl, hb2⟩) | (go_at_call 9; refine (HC.out _).mono ?_; rintro e w1 hp; rw [HT.out] at hp; obtain ⟨pa, pp, pl, pc, rfl, hb1, htr⟩ := hp.some; clear hp; have HD := hid (l3Of_any htr ty HTY.out hat hwt); clear htr))
    go_ret2
    have s1 := hb1.size
    exact ⟨rfl, hb1.trans (((Below.refl _ _).alloc s1 _).trans (hb2.mono (by simp; omega)))⟩

end Go.Proofs.YtfogjomebcponaaDoor
