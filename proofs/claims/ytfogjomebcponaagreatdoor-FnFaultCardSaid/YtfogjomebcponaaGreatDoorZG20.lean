/- Merged: KidsOk, ExtT0. -/
import Derived.Test.YtfogjomebcponaaGreatDoorZG14
import Derived.Test.YtfogjomebcponaaGreatDoorZGc0
namespace Go.Proofs.YtfogjomebcponaaGreatDoor
open Go.RowKit
set_option maxRecDepth 100000
set_option maxHeartbeats 1000000
def KidsOk (l : List Ty) (w : World) (e : Ending) (w' : World) : Prop := ∃ p c, e = .returned (.slice p l.length c) ∧ Vals w' p (l.map Ty.val) ∧ Below w.heap.size w w'
theorem kidsOk_bit (w : World) : Calls Tryz.prog 219 #[.agg #[]] w (KidsOk [] w) := (kids_bit w).mono fun _ _ ⟨he, hb⟩ => ⟨none, 0, he, (fun i v h => by simp at h), hb⟩
theorem kidsOk_pair (x y : Ty) (w : World) : Calls Tryz.prog 199 #[.agg #[x.val, y.val]] w (KidsOk [x, y] w) := (kids_pair x y w).mono fun _ _ ⟨_, he, hh, hb⟩ => ⟨_, _, he, vat hh, hb⟩
theorem kidsOk_thunk (x : Ty) (w : World) : Calls Tryz.prog 203 #[.agg #[x.val]] w (KidsOk [x] w) := (kids_thunk x w).mono fun _ _ ⟨_, he, hh, hb⟩ => ⟨_, _, he, vao hh, hb⟩
theorem kidsOk_ret (x : Ty) (w : World) : Calls Tryz.prog 207 #[.agg #[x.val]] w (KidsOk [x] w) := (kids_ret x w).mono fun _ _ ⟨_, he, hh, hb⟩ => ⟨_, _, he, vao hh, hb⟩
theorem kidsOk_fn (x y : Ty) (w : World) : Calls Tryz.prog 211 #[.agg #[x.val, y.val]] w (KidsOk [x, y] w) := (kids_fn x y w).mono fun _ _ ⟨_, he, hh, hb⟩ => ⟨_, _, he, vat hh, hb⟩
theorem kidsOk_choice (x y : Ty) (w : World) : Calls Tryz.prog 215 #[.agg #[x.val, y.val]] w (KidsOk [x, y] w) := (kids_choice x y w).mono fun _ _ ⟨_, he, hh, hb⟩ => ⟨_, _, he, vat hh, hb⟩
def exV (e : Ex) : Value := .agg #[.int .i64 (e.a : Int), .int .i64 (e.b : Int), .int .i64 (e.n : Int)]
def Ex.ok (e : Ex) : Prop := e.a ≤ 4000000000 ∧ e.b ≤ 40000000000 ∧ e.n ≤ 40000000000
theorem exAtom_any (s : ByteArray) (w : World) : Calls Tryz.prog 79 #[.string s] w fun e w' => e = .returned (exV (Ex.atom s.size)) ∧ Below w.heap.size w w' := by
 go_enter Tryz.func79, Tryz.ntmps79
 go_wp2_with fail
 refine bodyPost_ret (v := .agg #[.int .i64 1, .int .i64 (s.size : Int), .int .i64 0]) (by simp [results, Tryz.results79, go_sem]) rfl ?_
 exact ⟨rfl, (Below.refl _ _).alloc (Nat.le_refl _) _⟩
theorem exHead_any (s : ByteArray) (hs : s.size ≤ 40000000000) (w : World) : Calls Tryz.prog 80 #[.string s] w fun e w' => e = .returned (exV (Ex.head s.size)) ∧ Below w.heap.size w w' := by
 go_enter Tryz.func80, Tryz.ntmps80
 go_wp2_with fail
 refine bodyPost_ret (v := .agg #[.int .i64 1, .int .i64 (2 + (s.size : Int)), .int .i64 1]) (by simp [results, Tryz.results80, go_sem]) rfl ?_
 exact ⟨rfl, (Below.refl _ _).alloc (Nat.le_refl _) _⟩
theorem exV_eq {a b n : Nat} {x y z : Int} (h1 : x = (a : Int)) (h2 : y = (b : Int)) (h3 : z = (n : Int)) : Ending.returned (.agg #[.int .i64 x, .int .i64 y, .int .i64 z]) = .returned (exV ⟨a, b, n⟩) := by subst h1; subst h2; subst h3; rfl
theorem exWith_any (e p : Ex) (he : e.ok) (hp : p.ok) (w : World) : Calls Tryz.prog 81 #[exV e, exV p] w fun r w' => r = .returned (exV (e.wi p)) ∧ Below w.heap.size w w' := by
 obtain ⟨ea, eb, en⟩ := e
 obtain ⟨pa, pb, pn⟩ := p
 obtain ⟨h1, h2, h3⟩ := he
 obtain ⟨h4, h5, h6⟩ := hp
 simp only at h1 h2 h3 h4 h5 h6
 show Calls Tryz.prog _ #[.agg #[.int .i64 (ea : Int), .int .i64 (eb : Int), .int .i64 (en : Int)], .agg #[.int .i64 (pa : Int), .int .i64 (pb : Int), .int .i64 (pn : Int)]] w _
 go_enter Tryz.func81, Tryz.ntmps81
 go_wp2_with fail
 refine bodyPost_ret (v := .agg #[.int .i64 ((ea : Int) + (pa : Int)), .int .i64 ((eb : Int) + 1 + (pb : Int)), .int .i64 (max (en : Int) (1 + (pn : Int)))]) (by simp [results, Tryz.results81, go_sem]) rfl ?_
 refine ⟨?_, (((Below.refl _ _).alloc (Nat.le_refl _) _).alloc (by simp) _).alloc (by simp; omega) _⟩
 show _ = Ending.returned (exV ⟨ea + pa, eb + 1 + pb, max en (1 + pn)⟩)
 exact exV_eq (by omega) (by omega) (by omega)
end Go.Proofs.YtfogjomebcponaaGreatDoor
