/- The model's writing of an element: l6Dec, l5Value. -/
import Derived.Test.YtnmbkaemdblhpaaGreatDoorVtP
import Derived.Test.YtnmbkaemdblhpaaGreatDoorQuoP
import Derived.Deep.RegionHeld3
namespace Go.Proofs.YtnmbkaemdblhpaaGreatDoor
open Go.RowKit

theorem below_nw {w W w1 : World} (h1 : Below W.heap.size W w1) (h : Below w.heap.size w W) : Below w.heap.size w w1 := h.trans (h1.mono h.size)
theorem conv_one (c : Int) (w : World) : (convert 88 9 (.slice (some ⟨w.heap.size, 0, none⟩) 1 1)).run Tryz.prog (w.alloc (.cells #[.int .u8 c] 5)) = .ok (.string (strOfNums [c])) (w.alloc (.cells #[.int .u8 c] 5)) :=
  run_convert_bytes_arg _ 88 5 Tryz.underlying88 Tryz.underlying5 w.heap.size 0 1 1 [c] rfl (by
    intro i hi
    obtain rfl : i = 0 := by omega
    simp) 9 Tryz.underlying9
set_option maxRecDepth 100000 in
set_option maxHeartbeats 1000000 in
theorem l6Dec_bit (k : Nat) (hk : k < 2) (w : World) : Calls Tryz.prog 21 #[.int .i64 (k : Int)] w fun e w' => e = .returned (.string (bitS k)) ∧ Below w.heap.size w w' := by
  have h : k = 0 ∨ k = 1 := by omega
  rcases h with rfl | rfl
  · have hc := conv_one 48 w
    have e : strOfNums [48] = bitS 0 := by decide
    rw [e] at hc
    clear e
    go_enter Tryz.func21, Tryz.ntmps21
    go_wp2_with fail
    go_ret
    exact ⟨rfl, (Below.refl _ _).alloc (Nat.le_refl _) _⟩
  · have hc := conv_one 49 w
    have e : strOfNums [49] = bitS 1 := by decide
    rw [e] at hc
    clear e
    go_enter Tryz.func21, Tryz.ntmps21
    go_wp2_with fail
    go_ret
    exact ⟨rfl, (Below.refl _ _).alloc (Nat.le_refl _) _⟩

set_option maxRecDepth 100000 in
set_option maxHeartbeats 2000000 in
theorem l5Value_bit (s : ByteArray) (hne : s.size ≠ 0) (k : Nat) (hk : k < 2) (w : World) : Calls Tryz.prog 10 #[.agg #[.string s, .slice none 0 0], .int .i64 (k : Int)] w fun e w' => e = .returned (.string (bitS k)) ∧ Below w.heap.size w w' := by
  have he := isEmpty_not s hne
  have HD := hid (fun W => l6Dec_bit k hk W)
  go_enter Tryz.func10, Tryz.ntmps10
  go_wp2_with (go_at_call 21; refine (HD.out _).mono ?_; rintro e w1 ⟨rfl, hb1⟩)
  go_ret
  exact ⟨rfl, ((Below.refl _ _).alloc (Nat.le_refl _) _).trans (hb1.mono (by simp))⟩

set_option maxRecDepth 100000 in
set_option maxHeartbeats 2000000 in
theorem l5Value_pair {w : World} {b cap : Nat} {a1 a2 : ByteArray} {p1 p2 : Option Addr} {n1 m1 n2 m2 k y : Nat} {A B : ByteArray} (hcap : 3 ≤ cap ∧ cap ≤ maxLen)
    (c2 : w.cell? ⟨b, 2, none⟩ = some (.string a1)) (c3 : w.cell? ⟨b, 3, none⟩ = some (.slice p1 n1 m1)) (c4 : w.cell? ⟨b, 4, none⟩ = some (.string a2)) (c5 : w.cell? ⟨b, 5, none⟩ = some (.slice p2 n2 m2))
    (H : ∀ W, Kept w W → w.heap.size ≤ W.heap.size → Calls Tryz.prog 20 #[.agg #[.string a2, .slice p2 n2 m2]] W fun e w' => e = .returned (.int .i64 (y : Int)) ∧ Below W.heap.size W w')
    (H1 : ∀ W, Kept w W → w.heap.size ≤ W.heap.size → Calls Tryz.prog 10 #[.agg #[.string a1, .slice p1 n1 m1], .int .i64 ((k / y : Nat) : Int)] W fun e w' => e = .returned (.string A) ∧ Below W.heap.size W w')
    (H2 : ∀ W, Kept w W → w.heap.size ≤ W.heap.size → Calls Tryz.prog 10 #[.agg #[.string a2, .slice p2 n2 m2], .int .i64 ((k % y : Nat) : Int)] W fun e w' => e = .returned (.string B) ∧ Below W.heap.size W w')
    (hy : 1 ≤ y) (hy2 : y ≤ 5000) (hk : k ≤ 5000) (hA : A.size ≤ 24000) (hB : B.size ≤ 24000) :
    Calls Tryz.prog 10 #[.agg #[.string ByteArray.empty, .slice (some ⟨b, 0, none⟩) 3 cap], .int .i64 (k : Int)] w fun e w' => e = .returned (.string (((({ data := #[40, 112, 97, 105, 114, 32] } : ByteArray) ++ A) ++ ({ data := #[32] } : ByteArray)) ++ B ++ ({ data := #[41] } : ByteArray))) ∧ Below w.heap.size w w' := by
  have hmc : cap ≤ 9223372036854775807 := by have := hcap.2; unfold maxLen at this; omega
  have q1 := wrap_quot k y hk
  have q2 := wrap_quot_e k y hk
  have q3 := wrap64_quot k y hk
  have q4 := quot_t k y
  have q5 := rest_t k y
  have q6 := rest_e k y
  obtain ⟨kq, hkq⟩ : ∃ kq, k / y = kq := ⟨_, rfl⟩
  obtain ⟨kr, hkr⟩ : ∃ kr, k % y = kr := ⟨_, rfl⟩
  rw [hkq] at q1 q2 q3 q4 H1
  rw [hkr] at q5 q6 H2
  have q7 : IntKind.i64.wrap (kq : Int) = kq := IntWalk.i64_in _ (by have := Nat.div_le_self k y; omega)
  have s1 : ¬ 9223372036854775807 < 6 + A.size := by omega
  have s2 : ¬ 9223372036854775807 < 6 + A.size + 1 := by omega
  have s3 : ¬ 9223372036854775807 < 6 + A.size + 1 + B.size := by omega
  have s4 : ¬ 9223372036854775807 < 6 + A.size + 1 + B.size + 1 := by omega
  have hy0 : (y : Int) ≠ 0 := by omega
  have hy1 : y ≠ 0 := by omega
  have hy3 : ((y : Int) == 0) = false := by simp; omega
  have HC := hid H
  have HC1 := hid H1
  have HC2 := hid H2
  have KC := hid (fun W (h : Kept w W) => (show W.cell? ⟨b, 2, none⟩ = some (.string a1) ∧ W.cell? ⟨b, 3, none⟩ = some (.slice p1 n1 m1) ∧ W.cell? ⟨b, 4, none⟩ = some (.string a2) ∧ W.cell? ⟨b, 5, none⟩ = some (.slice p2 n2 m2) from ⟨h.cell c2, h.cell c3, h.cell c4, h.cell c5⟩))
  obtain ⟨W0, hW0⟩ : ∃ W0, W0 = w.alloc (.cells #[.string ByteArray.empty, .slice (some ⟨b, 0, none⟩) 3 cap] 32) := ⟨_, rfl⟩
  have hs0 : W0.heap.size = w.heap.size + 1 := by rw [hW0]; simp
  have hb0 : Below w.heap.size w W0 := by rw [hW0]; exact (Below.refl _ _).alloc (Nat.le_refl _) _
  have k0 : Kept w W0 := Kept.of_below hb0 (Nat.le_refl _)
  have hn0 := heap_new w (.cells #[.string ByteArray.empty, .slice (some ⟨b, 0, none⟩) 3 cap] 32) w.heap.size rfl
  rw [← hW0] at hn0
  have KB := hid (fun W (h : Below W0.heap.size W0 W) => (show W.cell? ⟨w.heap.size, 0, none⟩ = some (.string ByteArray.empty) ∧ W.cell? ⟨w.heap.size, 1, none⟩ = some (.slice (some ⟨b, 0, none⟩) 3 cap) from by
    have e := cells_of_pair (block_below hn0 h (by omega))
    exact ⟨e.1, e.2.1⟩))
  have HB0 := hid hb0
  have K0 := hid k0
  have HS0 := hid hs0
  have HW0 := hid hW0
  have d0 := KC.out W0 k0
  have d1 := KB.out W0 (Below.refl _ _)
  obtain ⟨d01, d02, d03, d04⟩ := d0
  obtain ⟨d11, d12⟩ := d1
  clear H H1 H2 hkq hkr c2 c3 c4 c5 hs0 hb0 hn0 k0 HW0
  subst hW0
  go_enter Tryz.func10, Tryz.ntmps10
  go_wp2_with fail
  go_at_call 20
  refine (HC.out _ K0.out (by simp)).mono ?_
  rintro e w1 ⟨rfl, hb1⟩
  have k1 := K0.out.below hb1 (by simp)
  have hs1 : w.heap.size ≤ w1.heap.size := by have := hb1.size; simp at this; omega
  obtain ⟨d21, d22, d23, d24⟩ := KC.out w1 k1
  obtain ⟨d31, d32⟩ := KB.out w1 hb1
  have HB1 := hid hb1
  have KC1 := hid (fun W (h : Below w1.heap.size w1 W) => (show (W.cell? ⟨b, 2, none⟩ = some (.string a1) ∧ W.cell? ⟨b, 3, none⟩ = some (.slice p1 n1 m1) ∧ W.cell? ⟨b, 4, none⟩ = some (.string a2) ∧ W.cell? ⟨b, 5, none⟩ = some (.slice p2 n2 m2)) ∧ Kept w W from ⟨KC.out W (k1.below h hs1), k1.below h hs1⟩))
  have KB1 := hid (fun W (h : Below w1.heap.size w1 W) => KB.out W (hb1.trans (h.mono hb1.size)))
  have HS1 := hid hs1
  clear hb1 d01 d02 d03 d04 d11 d12 k1 hs1
  go_wp2_with fail
  go_region_held3 (fun w' => w'.cell? ⟨b, 2, none⟩ = some (.string a1) ∧ w'.cell? ⟨b, 3, none⟩ = some (.slice p1 n1 m1) ∧ w'.cell? ⟨b, 4, none⟩ = some (.string a2) ∧ w'.cell? ⟨b, 5, none⟩ = some (.slice p2 n2 m2) ∧ w'.cell? ⟨w.heap.size, 0, none⟩ = some (.string ByteArray.empty) ∧ w'.cell? ⟨w.heap.size, 1, none⟩ = some (.slice (some ⟨b, 0, none⟩) 3 cap) ∧ Below w1.heap.size w1 w')
    (first | exact ⟨d21, d22, d23, d24, d31, d32, (Below.refl _ _).drew⟩ | exact ⟨e31.1.1, e31.1.2.1, e31.1.2.2.1, e31.1.2.2.2, e32.1, e32.2, HB3.out⟩ | exact ⟨e21.1.1, e21.1.2.1, e21.1.2.2.1, e21.1.2.2.2, e22.1, e22.2, HB2.out⟩)
    (first
      | (have _ := HB2; go_at_call 10; go_split_ands; refine (HC2.out _ (KC1.out _ (by assumption)).2 (Nat.le_trans HS1.out (Below.size (by assumption)))).mono ?_; rintro e w3 ⟨rfl, hb3⟩; have hb03 := below_nw hb3 (by assumption); have e31 := KC1.out _ hb03; have e32 := KB1.out _ hb03; have HB3 := hid hb03; clear hb3 hb03)
      | (go_at_call 10; go_split_ands; refine (HC1.out _ (KC1.out _ (by assumption)).2 (Nat.le_trans HS1.out (Below.size (by assumption)))).mono ?_; rintro e w2 ⟨rfl, hb2⟩; have hb02 := below_nw hb2 (by assumption); have e21 := KC1.out _ hb02; have e22 := KB1.out _ hb02; have HB2 := hid hb02; clear hb2 hb02))
  go_wp2_with fail
  go_ret
  exact ⟨rfl, HB0.out.trans ((HB1.out.trans (HB3.out.mono HB1.out.size)).mono (by simp))⟩

set_option maxHeartbeats 1000000 in
/-- THE MODEL's VALUE OF AN ELEMENT. -/
theorem l5Value_any {w0 : World} {S : Nat → Prop} {t : Tree} {h : Hd} (ht : TIn w0 S t h) : ∀ ty, t.ty = some ty → ty.vp = true → ∀ n, ty.cnt = some n → ∀ k, k < n → ∀ w, Kept w0 w → w0.heap.size ≤ w.heap.size →
    Calls Tryz.prog 10 #[.agg #[.string h.a, .slice h.p h.l h.c], .int .i64 (k : Int)] w fun e w' => e = .returned (.string (ty.vt k)) ∧ Below w.heap.size w w' := by
  induction ht with
  | atom s hne hm =>
    intro ty hty hvp n hn k hk w _ _
    have hb : ty = .bit := by
      rw [Tree.ty] at hty; split at hty
      · simp at hty; exact hty.symm
      · simp at hty
    subst hb
    simp [Ty.cnt] at hn
    exact l5Value_bit s hne k (by omega) w
  | node ps b cap A hp hl hc hS hA hB hps ih =>
    intro ty hty hvp n hn k hk w hkw hw
    obtain ⟨q, qs, rfl⟩ : ∃ q qs, ps = q :: qs := by cases ps with | nil => simp at hp | cons q qs => exact ⟨q, qs, rfl⟩
    have hq := (hps 0 q rfl).text
    rw [Tree.ty] at hty
    cases hks : Tree.tys qs with
    | none => rw [hks] at hty; simp at hty
    | some ks =>
      rw [hks] at hty; simp only at hty
      rcases tyParts_cases hty with ⟨a, d, hL, rfl, rfl⟩ | ⟨a, d, hL, rfl, rfl⟩ | ⟨a, d, hL, rfl, rfl⟩ | ⟨a, hL, rfl, rfl⟩ | ⟨a, hL, rfl, rfl⟩
      · obtain ⟨p, r, rfl, hpt, hrt⟩ := tys_two hks
        obtain ⟨x, y, hx, hy, rfl⟩ := cnt_pair hn
        simp [Ty.vp] at hvp
        have ry := cnt_range d y hy
        have rn := cnt_range _ _ hn
        have c2 := hkw.cell (hA 1 (by simp)); have c3 := hkw.cell (hB 1 (by simp)); have c4 := hkw.cell (hA 2 (by simp)); have c5 := hkw.cell (hB 2 (by simp))
        have hA2 := vt_size a (k / y)
        have hB2 := vt_size d (k % y)
        have la := vp_small hvp.1 hx
        have lb := vp_small hvp.2 hy
        rw [← vt_pair a d k y hy]
        exact l5Value_pair ⟨hl, hc⟩ c2 c3 c4 c5
          (fun W hkW hs => by
            have := l1Count_any (hps 2 r rfl) d hrt W (hkw.trans hkW hw) (by omega)
            rw [cntV_some hy] at this; exact this)
          (fun W hkW hs => ih 1 p rfl a hpt hvp.1 x hx (k / y) (Nat.div_lt_of_lt_mul (by rw [Nat.mul_comm]; exact hk)) W (hkw.trans hkW hw) (by omega))
          (fun W hkW hs => ih 2 r rfl d hrt hvp.2 y hy (k % y) (Nat.mod_lt _ (by omega)) W (hkw.trans hkW hw) (by omega))
          (by omega) (by omega) (by omega) (by omega) (by omega)
      all_goals simp [Ty.vp] at hvp
end Go.Proofs.YtnmbkaemdblhpaaGreatDoor
