/- Merged: KidsOk, ExtT0. -/
import Derived.Test.YtagifgekhboinaaGreatDoorDA9
import Derived.Test.YtagifgekhboinaaGreatDoorDASSvP
import Derived.Test.YtagifgekhboinaaGreatDoorDA0
namespace Go.Proofs.YtagifgekhboinaaGreatDoor
open Go.RowKit

/-- What a method that lists a type's parts leaves. -/
def KidsOk (l : List Ty) (w : World) (e : Ending) (w' : World) : Prop := ∃ p c, e = .returned (.slice p l.length c) ∧ Vals w' p (l.map Ty.val) ∧ Below w.heap.size w w'
theorem kidsOk_bit (w : World) : Calls Tryz.prog 194 #[.agg #[]] w (KidsOk [] w) := (kids_bit w).mono fun _ _ ⟨he, hb⟩ => ⟨none, 0, he, (fun i v h => by simp at h), hb⟩
theorem kidsOk_pair (x y : Ty) (w : World) : Calls Tryz.prog 174 #[.agg #[x.val, y.val]] w (KidsOk [x, y] w) := (kids_pair x y w).mono fun _ _ ⟨_, he, hh, hb⟩ => ⟨_, _, he, vals_two hh, hb⟩
theorem kidsOk_thunk (x : Ty) (w : World) : Calls Tryz.prog 182 #[.agg #[x.val]] w (KidsOk [x] w) := (kids_thunk x w).mono fun _ _ ⟨_, he, hh, hb⟩ => ⟨_, _, he, vals_one hh, hb⟩
theorem kidsOk_ret (x : Ty) (w : World) : Calls Tryz.prog 186 #[.agg #[x.val]] w (KidsOk [x] w) := (kids_ret x w).mono fun _ _ ⟨_, he, hh, hb⟩ => ⟨_, _, he, vals_one hh, hb⟩
theorem kidsOk_fn (x y : Ty) (w : World) : Calls Tryz.prog 190 #[.agg #[x.val, y.val]] w (KidsOk [x, y] w) := (kids_fn x y w).mono fun _ _ ⟨_, he, hh, hb⟩ => ⟨_, _, he, vals_two hh, hb⟩
theorem kidsOk_choice (x y : Ty) (w : World) : Calls Tryz.prog 178 #[.agg #[x.val, y.val]] w (KidsOk [x, y] w) := (kids_choice x y w).mono fun _ _ ⟨_, he, hh, hb⟩ => ⟨_, _, he, vals_two hh, hb⟩
end Go.Proofs.YtagifgekhboinaaGreatDoor

namespace Go.Proofs.YtagifgekhboinaaGreatDoor
open Go.RowKit

def exV (e : Ex) : Value := .agg #[.int .i64 (e.a : Int), .int .i64 (e.b : Int), .int .i64 (e.n : Int)]
/-- Extents that are far below what numbers hold. -/
def Ex.ok (e : Ex) : Prop := e.a ≤ 4000000000 ∧ e.b ≤ 40000000000 ∧ e.n ≤ 40000000000
theorem ex_max {a b : Nat} : ((max a b : Nat) : Int) = max (a : Int) (b : Int) := by omega

set_option maxRecDepth 100000 in
set_option maxHeartbeats 1000000 in
theorem exAtom_any (s : ByteArray) (w : World) : Calls Tryz.prog 37 #[.string s] w fun e w' => e = .returned (exV (Ex.atom s.size)) ∧ Below w.heap.size w w' := by
  go_enter Tryz.func37, Tryz.ntmps37
  go_wp2_with fail
  refine bodyPost_ret (v := .agg #[.int .i64 1, .int .i64 (s.size : Int), .int .i64 0]) (by simp [results, Tryz.results37, go_sem]) rfl ?_
  exact ⟨rfl, (Below.refl _ _).alloc (Nat.le_refl _) _⟩
set_option maxRecDepth 100000 in
set_option maxHeartbeats 1000000 in
theorem exHead_any (s : ByteArray) (hs : s.size ≤ 40000000000) (w : World) : Calls Tryz.prog 38 #[.string s] w fun e w' => e = .returned (exV (Ex.head s.size)) ∧ Below w.heap.size w w' := by
  go_enter Tryz.func38, Tryz.ntmps38
  go_wp2_with fail
  refine bodyPost_ret (v := .agg #[.int .i64 1, .int .i64 (2 + (s.size : Int)), .int .i64 1]) (by simp [results, Tryz.results38, go_sem]) rfl ?_
  exact ⟨rfl, (Below.refl _ _).alloc (Nat.le_refl _) _⟩
set_option maxRecDepth 100000 in
set_option maxHeartbeats 1000000 in
theorem exWith_any (e p : Ex) (he : e.ok) (hp : p.ok) (w : World) : Calls Tryz.prog 39 #[exV e, exV p] w fun r w' => r = .returned (exV (e.wi p)) ∧ Below w.heap.size w w' := by
  obtain ⟨ea, eb, en⟩ := e
  obtain ⟨pa, pb, pn⟩ := p
  obtain ⟨h1, h2, h3⟩ := he
  obtain ⟨h4, h5, h6⟩ := hp
  simp only at h1 h2 h3 h4 h5 h6
  show Calls Tryz.prog _ #[.agg #[.int .i64 (ea : Int), .int .i64 (eb : Int), .int .i64 (en : Int)], .agg #[.int .i64 (pa : Int), .int .i64 (pb : Int), .int .i64 (pn : Int)]] w _
  go_enter Tryz.func39, Tryz.ntmps39
  go_wp2_with fail
  · refine bodyPost_ret (v := .agg #[.int .i64 ((ea : Int) + (pa : Int)), .int .i64 ((eb : Int) + 1 + (pb : Int)), .int .i64 (1 + (pn : Int))]) (by simp [results, Tryz.results39, go_sem]) rfl ?_
    refine ⟨?_, (((Below.refl _ _).alloc (Nat.le_refl _) _).alloc (by simp) _).alloc (by simp; omega) _⟩
    have : max en (1 + pn) = 1 + pn := by omega
    simp only [exV, Ex.wi, this]; simp
  · refine bodyPost_ret (v := .agg #[.int .i64 ((ea : Int) + (pa : Int)), .int .i64 ((eb : Int) + 1 + (pb : Int)), .int .i64 (en : Int)]) (by simp [results, Tryz.results39, go_sem]) rfl ?_
    refine ⟨?_, (((Below.refl _ _).alloc (Nat.le_refl _) _).alloc (by simp) _).alloc (by simp; omega) _⟩
    have : max en (1 + pn) = en := by omega
    simp only [exV, Ex.wi, this]; simp
end Go.Proofs.YtagifgekhboinaaGreatDoor
