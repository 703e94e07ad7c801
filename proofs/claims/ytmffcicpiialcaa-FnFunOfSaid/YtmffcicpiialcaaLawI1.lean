/- FunAt of the program, walked. -/
import Derived.Test.YtmffcicpiialcaaElemB
namespace Go.Proofs.Ytmffcicpiialcaa
open Go.RowKit

theorem fn_kids {ty : Ty} (h : ty.headB = 62 ∨ ty.headB = 62) : ∃ x y, ty = .fn x y ∧ ty.kids = [x, y] := by
  cases ty with
  | fn x y => exact ⟨x, y, rfl, rfl⟩
  | pair x y => rcases h with h | h <;> cases h
  | choice x y => rcases h with h | h <;> cases h
  | bit => rcases h with h | h <;> cases h
  | thunk x => rcases h with h | h <;> cases h
  | ret x => rcases h with h | h <;> cases h
theorem heads_fn (t : Ty) : decide (0 ≤ Lib.indexByte (⟨#[62]⟩ : ByteArray).data.toList t.headB) = decide (t.headB = 62 ∨ t.headB = 62) := by
  cases t <;> rfl
/-- The element of a function for an element. -/
def atN (k n a : Nat) : Nat := k / n ^ a % n
theorem pw_pos (n a : Nat) (hn : 1 ≤ n) (hn5 : n ≤ 5000) : 1 ≤ pw n a 1 ∧ pw n a 1 ≤ 25000000 := by
  have h := pw_spec n hn hn5 a 1 (by decide)
  rw [Nat.one_mul] at h
  refine ⟨?_, h.2.2⟩
  by_cases hz : pw n a 1 ≤ 5000
  · rw [h.1 hz]; exact Nat.pow_pos hn
  · omega
theorem pw_div (k n a : Nat) (hk : k ≤ 5000) (hn : 1 ≤ n) (hn5 : n ≤ 5000) : k / pw n a 1 % n = atN k n a := by
  have h := pw_spec n hn hn5 a 1 (by decide)
  rw [Nat.one_mul] at h
  unfold atN
  by_cases hz : pw n a 1 ≤ 5000
  · rw [h.1 hz]
  · have := h.2.1 (by omega)
    rw [Nat.div_eq_of_lt (by omega), Nat.div_eq_of_lt (by omega)]
theorem atN_succ (k n a : Nat) : k / n ^ a / n = k / n ^ (a + 1) := by
  rw [Nat.div_div_eq_div_mul, Nat.pow_succ]
/-- What FunAt tells, of the counts around. -/
def faX (o : Option (List Nat)) (k a : Int) : Option Nat := match o with
  | some [x, y] => if 0 ≤ a ∧ a < (x : Int) then some (atN k.toNat y a.toNat) else none
  | _ => none
def faV : Option Nat → Int
  | some n => (n : Int)
  | none => 0
def FaPost (x : Option Nat) (w : World) (e : Ending) (w' : World) : Prop := e = .returned (.tuple #[.int .i64 (faV x), .bool x.isSome]) ∧ Below w.heap.size w w'
theorem wrap_div (k p : Nat) (hk : k ≤ 5000) : wrap64 ((k : Int) / (p : Int)) = ((k / p : Nat) : Int) := by
  have h := Nat.div_le_self k p
  have e : (k : Int) / (p : Int) = ((k / p : Nat) : Int) := rfl
  rw [e]
  have key : ∀ m : Nat, m ≤ k → wrap64 (m : Int) = m := fun m hm => IntWalk.wrap64_in _ (by omega)
  exact key _ h
theorem wrap_divmod (k p n : Nat) (hk : k ≤ 5000) : (wrap64 ((k : Int) / (p : Int))).tmod (n : Int) = ((k / p % n : Nat) : Int) := by
  rw [wrap_div k p hk]; rfl
theorem nat_mod (k n : Nat) : (k : Int) % (n : Int) = ((k % n : Nat) : Int) := rfl
theorem ret_tup {a b : Int} {c : Bool} (h : a = b) : Ending.returned (.tuple #[.int .i64 a, .bool c]) = .returned (.tuple #[.int .i64 b, .bool c]) := by rw [h]

set_option maxRecDepth 100000 in
set_option maxHeartbeats 1000000 in
theorem funAt_any (k a n : Nat) (hk5 : k ≤ 5000) (ha : a ≤ 5000) (hn : 1 ≤ n) (hn5 : n ≤ 5000) (w : World) :
    Calls Try.prog 20 #[.int .i64 (k : Int), .int .i64 (a : Int), .int .i64 (n : Int)] w fun e w' => e = .returned (.int .i64 ((atN k n a : Nat) : Int)) ∧ w = w' := by
  have hp := pw_pos n a hn hn5
  have HD := hid (pw_div k n a hk5 hn hn5)
  have HP := hid (fun W => countPower_any n a hn5 (by omega) W)
  obtain ⟨P, hP⟩ : ∃ P, pw n a 1 = P := ⟨_, rfl⟩
  rw [hP] at hp HD HP
  have hp1 : 1 ≤ P := hp.1
  have hp2 : P ≤ 25000000 := hp.2
  have hd0 : (0 : Int) ≤ (k : Int) / (P : Int) := Int.ediv_nonneg (by omega) (by omega)
  clear hP hp
  go_enter Try.func20, Try.ntmps20
  go_wp2_with (go_at_call 30; refine (HP.out _).mono ?_; rintro e w1 ⟨rfl, rfl⟩)
  go_ret
  exact ⟨ret_int ((wrap_divmod k P n hk5).trans (by rw [HD.out])), rfl⟩

set_option maxRecDepth 100000 in
set_option maxHeartbeats 2000000 in
theorem implFunAt_any (s : ByteArray) (hs : s.size ≤ 400000000) (k a : Int) (w : World) : Calls Try.prog 7 #[.string s, .int .i64 k, .int .i64 a] w (FaPost (faX (around (readTy s) 62 62 k) k a) w) := by
  have HC := hid (fun W => around_any s ⟨#[62]⟩ hs 62 62 (by decide) (by decide) k W heads_fn)
  rcases elem_cases s 62 62 k with ⟨h1, h2⟩ | ⟨ty, t, xs, n, h1, h2, hty, hkc, hh, hn, hk0, hkn, hn5, hw⟩
  · have H1 := hid h1
    have HX := hid (show faX (around (readTy s) 62 62 k) k a = none by rw [h1]; rfl)
    clear h1 h2
    go_enter Try.func7, Try.ntmps7
    go_wp2_with (go_at_call 13; refine (HC.out _).mono ?_; rintro e w1 hp; rw [H1.out] at hp; obtain ⟨rfl, hb1⟩ := hp.none; clear hp)
    go_ret2
    rw [HX.out]
    exact ⟨rfl, hb1⟩
  · obtain ⟨x, y, rfl, hxy⟩ := fn_kids hh
    rw [hxy] at hkc
    obtain ⟨cx, cy, rfl, hcx, hcy, hx2, hx5, hy2, hy5⟩ := kc_two hkc
    have H1 := hid h1
    have HI := hid (fun W => isElement_any a (cx : Int) W)
    by_cases ha : 0 ≤ a ∧ a < (cx : Int)
    · obtain ⟨kn, rfl⟩ := Int.eq_ofNat_of_zero_le hk0
      obtain ⟨an, rfl⟩ := Int.eq_ofNat_of_zero_le ha.1
      have HX := hid (show faX (around (readTy s) 62 62 (kn : Int)) (kn : Int) (an : Int) = some (atN kn cy an) by rw [h1, faX, if_pos ha]; rfl)
      have HP := hid (fun W => funAt_any kn an cy (by omega) (by omega) (by omega) hy5 W)
      rw [decide_eq_true ha] at HI
      clear h1 h2 hty hkc hh hn hw hxy hcx hcy ha
      go_enter Try.func7, Try.ntmps7
      go_wp2_with (first | (go_at_call 13; refine (HC.out _).mono ?_; rintro e w1 hp; rw [H1.out] at hp; obtain ⟨q, c, rfl, hv, hb1⟩ := hp.some; clear hp; obtain ⟨g, rfl, hc1⟩ := hv 0 _ rfl; obtain ⟨g2, hg2, hc2⟩ := hv 1 _ rfl; obtain rfl : g = g2 := (by simpa using hg2); clear hv hg2) | (go_at_call 14; refine (HI.out _).mono ?_; rintro e w2 ⟨rfl, rfl⟩) | (go_at_call 20; refine (HP.out _).mono ?_; rintro e w3 ⟨rfl, rfl⟩))
      go_ret2
      rw [HX.out]
      exact ⟨rfl, hb1⟩
    · have HX := hid (show faX (around (readTy s) 62 62 k) k a = none by rw [h1, faX, if_neg ha])
      rw [decide_eq_false ha] at HI
      clear h1 h2 hty hkc hh hn hw hxy hcx hcy ha
      go_enter Try.func7, Try.ntmps7
      go_wp2_with (first | (go_at_call 13; refine (HC.out _).mono ?_; rintro e w1 hp; rw [H1.out] at hp; obtain ⟨q, c, rfl, hv, hb1⟩ := hp.some; clear hp; obtain ⟨g, rfl, hc1⟩ := hv 0 _ rfl; clear hv) | (go_at_call 14; refine (HI.out _).mono ?_; rintro e w2 ⟨rfl, rfl⟩))
      go_ret2
      rw [HX.out]
      exact ⟨rfl, hb1⟩

end Go.Proofs.Ytmffcicpiialcaa
