/- Merged: ExtF. -/
import Derived.Test.YtfogjomebcponaaGreatDoorTTSExtT
import Derived.Test.YtfogjomebcponaaGreatDoorTT9
namespace Go.Proofs.YtfogjomebcponaaGreatDoor
open Go.RowKit

theorem ty_exle : ∀ t : Ty, t.ex.a = t.atoms ∧ t.ex.b ≤ 8 * t.atoms ∧ t.ex.n ≤ t.atoms
  | .bit => ⟨rfl, by decide, by decide⟩
  | .pair a c => by
    obtain ⟨h1, h2, h3⟩ := ty_exle a
    obtain ⟨k1, k2, k3⟩ := ty_exle c
    have e1 : (Ty.pair a c).ex = ⟨1 + a.ex.a + c.ex.a, 2 + 1 + 1 + a.ex.b + 1 + c.ex.b, max (max 1 (1 + a.ex.n)) (1 + c.ex.n)⟩ := rfl
    rw [e1, Ty.atoms]
    refine ⟨?_, ?_, ?_⟩ <;> simp only <;> omega
  | .thunk c => by
    obtain ⟨k1, k2, k3⟩ := ty_exle c
    have e1 : (Ty.thunk c).ex = ⟨1 + c.ex.a, 2 + 1 + 1 + c.ex.b, max 1 (1 + c.ex.n)⟩ := rfl
    rw [e1, Ty.atoms]
    refine ⟨?_, ?_, ?_⟩ <;> simp only <;> omega
  | .ret c => by
    obtain ⟨k1, k2, k3⟩ := ty_exle c
    have e1 : (Ty.ret c).ex = ⟨1 + c.ex.a, 2 + 1 + 1 + c.ex.b, max 1 (1 + c.ex.n)⟩ := rfl
    rw [e1, Ty.atoms]
    refine ⟨?_, ?_, ?_⟩ <;> simp only <;> omega
  | .fn a c => by
    obtain ⟨h1, h2, h3⟩ := ty_exle a
    obtain ⟨k1, k2, k3⟩ := ty_exle c
    have e1 : (Ty.fn a c).ex = ⟨1 + a.ex.a + c.ex.a, 2 + 1 + 1 + a.ex.b + 1 + c.ex.b, max (max 1 (1 + a.ex.n)) (1 + c.ex.n)⟩ := rfl
    rw [e1, Ty.atoms]
    refine ⟨?_, ?_, ?_⟩ <;> simp only <;> omega
  | .choice a c => by
    obtain ⟨h1, h2, h3⟩ := ty_exle a
    obtain ⟨k1, k2, k3⟩ := ty_exle c
    have e1 : (Ty.choice a c).ex = ⟨1 + a.ex.a + c.ex.a, 2 + 1 + 1 + a.ex.b + 1 + c.ex.b, max (max 1 (1 + a.ex.n)) (1 + c.ex.n)⟩ := rfl
    rw [e1, Ty.atoms]
    refine ⟨?_, ?_, ?_⟩ <;> simp only <;> omega
/-- What extentOfType tells: the atoms first. -/
theorem exTy_any (t : Ty) (h : t.atoms ≤ 400000000) (w : World) : Calls Tryz.prog 82 #[t.val] w fun e w' => (∃ b n : Int, e = .returned (.agg #[.int .i64 (t.atoms : Int), .int .i64 b, .int .i64 n])) ∧ Below w.heap.size w w' := by
  obtain ⟨h1, h2, h3⟩ := ty_exle t
  refine (extT_any t ⟨by omega, by omega, by omega⟩ w).mono ?_
  rintro e w' ⟨rfl, hb⟩
  exact ⟨⟨_, _, by rw [← h1]; rfl⟩, hb⟩
set_option maxRecDepth 100000 in
theorem exFld0 (a b n : Int) (w : World) : (Instr.field 72 (.agg #[.int .i64 a, .int .i64 b, .int .i64 n]) 0).run Tryz.prog w = .ok (.int .i64 a) w := by kernel_rfl
end Go.Proofs.YtfogjomebcponaaGreatDoor
