/- What is put together from a list is taken apart into it: FunOf and FunAt, without a program. -/
import Derived.Test.YtmffcicpiialcaaLawJ1
namespace Go.Proofs.Ytmffcicpiialcaa
open Go.RowKit

theorem at_hor (y : Nat) (hy : 1 ≤ y) : ∀ (l : List Nat) (i c : Nat), (∀ u ∈ l, u < y) → l[i]? = some c → atN (hor y l) y i = c
  | [], i, c, _, h => by simp at h
  | u :: l, 0, c, hl, h => by
    simp at h; subst h
    have hu := hl u (List.mem_cons_self ..)
    rw [atN, hor, Nat.pow_zero, Nat.div_one, Nat.add_mul_mod_self_left, Nat.mod_eq_of_lt hu]
  | u :: l, i + 1, c, hl, h => by
    have hu := hl u (List.mem_cons_self ..)
    have ih := at_hor y hy l i c (fun v hv => hl v (List.mem_cons_of_mem _ hv)) (by simpa using h)
    rw [atN] at ih ⊢
    rw [hor, Nat.pow_succ, Nat.mul_comm (y ^ i) y, ← Nat.div_div_eq_div_mul, Nat.add_mul_div_left _ _ (by omega), Nat.div_eq_of_lt hu, Nat.zero_add]
    exact ih
theorem around_shift {s : ByteArray} {xs : List Nat} (h : around (readTy s) 62 62 0 = some xs) {k : Int} (h0 : 0 ≤ k) (hk : k < cntO (readTy s)) : around (readTy s) 62 62 k = some xs := by
  cases hr : readTy s with
  | none => rw [hr] at h; simp [around] at h
  | some ty =>
    rw [hr] at h hk
    unfold around at h ⊢
    simp only at h ⊢
    split at h
    · rename_i hc
      rw [if_pos ⟨hc.1, h0, hk⟩]; exact h
    · simp at h
/-- What is known when FunOf succeeds. -/
theorem fo_some {s : ByteArray} {zs : List Int} {k : Nat} (h : foX (around (readTy s) 62 62 0) zs = some k) :
    ∃ y : Nat, around (readTy s) 62 62 (k : Int) = some [zs.length, y] ∧ (k : Int) < cntO (readTy s) ∧ 2 ≤ y ∧ (∀ z ∈ zs, 0 ≤ z ∧ z < (y : Int)) ∧ k = hor y (zs.map Int.toNat) ∧ k ≤ 5000 ∧ zs.length ≤ 5000 := by
  cases ha : around (readTy s) 62 62 0 with
  | none => rw [ha] at h; simp [foX] at h
  | some xs =>
    have ha0 := ha
    cases hr : readTy s with
    | none => rw [hr] at ha; simp [around] at ha
    | some ty =>
      rw [hr] at ha
      unfold around at ha
      simp only at ha
      split at ha
      case isFalse => simp at ha
      case isTrue hc =>
        obtain ⟨x, y, rfl, hxy⟩ := fn_kids hc.1
        rw [hxy] at ha
        obtain ⟨cx, cy, rfl, hcx, hcy, hx2, hx5, hy2, hy5⟩ := kc_two ha
        rw [ha0] at h
        unfold foX at h
        simp only at h
        split at h
        case isFalse => simp at h
        case isTrue hz =>
          simp at h
          obtain ⟨N, hN, _⟩ := cntV_pos (o := (Ty.fn x y).cnt) hc.2.1 hc.2.2
          have hN2 := hN
          rw [Ty.cnt, hcx, hcy] at hN2
          simp only at hN2
          have hcap := capped_some hN2
          have hlt := hor_lt cy (by omega) (zs.map Int.toNat) (by
            intro c hc
            obtain ⟨z, hz1, rfl⟩ := List.mem_map.1 hc
            have := hz.2 z hz1; omega)
          rw [List.length_map, hz.1, h] at hlt
          have hkN : (k : Int) < cntO (readTy s) := by
            rw [hr]; show (k : Int) < cntV (Ty.fn x y).cnt
            rw [hN]; show (k : Int) < (N : Int); omega
          refine ⟨cy, ?_, by rw [← hr]; exact hkN, hy2, hz.2, h.symm, by omega, by omega⟩
          rw [← hr, hz.1]; exact around_shift ha0 (by omega) hkN
theorem fo_at {s : ByteArray} {zs : List Int} {k : Nat} (h : foX (around (readTy s) 62 62 0) zs = some k) {i : Nat} {z : Int} (hz : zs[i]? = some z) : faV (faX (around (readTy s) 62 62 (k : Int)) (k : Int) (i : Int)) = z ∧ (faX (around (readTy s) 62 62 (k : Int)) (k : Int) (i : Int)).isSome = true := by
  obtain ⟨y, ha, _, hy, hall, hk, _, _⟩ := fo_some h
  have hi : i < zs.length := (List.getElem?_eq_some_iff.1 hz).1
  have hz2 := hall z (List.mem_of_getElem? hz)
  have hat := at_hor y (by omega) (zs.map Int.toNat) i z.toNat (by
    intro c hc
    obtain ⟨u, hu, rfl⟩ := List.mem_map.1 hc
    have := hall u hu; omega) (by simp [hz])
  rw [ha, faX, if_pos ⟨by omega, by omega⟩]
  rw [Int.toNat_natCast, Int.toNat_natCast, hk, hat]
  exact ⟨by show ((z.toNat : Nat) : Int) = z; omega, rfl⟩
end Go.Proofs.Ytmffcicpiialcaa
