/- Merged: PlainG. -/
import Derived.Test.YtlggbhakkhecmaaShelf
import Derived.Test.YtlggbhakkhecmaaVM7
namespace Go.Proofs.Ytlggbhakkhecmaa
open Go.RowKit

/-- Bits, pairs, and f of them. -/
def Ty.plain : Ty → Bool
  | .bit => true
  | .pair a b => a.plain && b.plain
  | .ret a => a.plain
  | _ => false
theorem tyParts_plain {L : List UInt8} {ks : List Ty} {ty : Ty} (h : tyParts L ks = some ty) : ty.plain = ((L == [42] || L == [102]) && ks.all Ty.plain) := by
  unfold tyParts at h
  split at h
  · split at h
    · rename_i c; simp at h; subst h; rw [c.1]; simp [Ty.plain]
    · split at h
      · rename_i c; simp at h; subst h; rw [c.1]; simp [Ty.plain]
      · split at h
        · rename_i c; simp at h; subst h; rw [c.1]; simp [Ty.plain]
        · simp at h
  · split at h
    · rename_i c; simp at h; subst h; rw [c.1]; simp [Ty.plain]
    · split at h
      · rename_i c; simp at h; subst h; rw [c.1]; simp [Ty.plain]
      · simp at h
  · simp at h
theorem all_take {ks : List Ty} {j : Nat} {t : Ty} (h : (ks.take j).all Ty.plain = true) (hk : ks[j]? = some t) (hp : t.plain = true) : (ks.take (j + 1)).all Ty.plain = true := by
  rw [List.take_add_one, hk]; simp [h, hp]
theorem all_no {ks : List Ty} {j : Nat} {t : Ty} (hk : ks[j]? = some t) (hp : t.plain = false) : ks.all Ty.plain = false := by
  rw [List.all_eq_false]; exact ⟨t, List.mem_of_getElem? hk, by simp [hp]⟩

theorem indexAny_any (chars : List UInt8) : ∀ l : List UInt8, decide (0 ≤ Lib.indexAny l chars) = l.any (chars.contains ·)
  | [] => by simp [Lib.indexAny]
  | b :: l => by
    have ih := indexAny_any chars l
    have hge := Lib.indexAny_ge chars l
    rw [Lib.indexAny, List.any_cons]
    by_cases hb : chars.contains b = true
    · rw [if_pos hb, hb]; rfl
    · rw [if_neg hb]
      have hb' : chars.contains b = false := by simpa using hb
      rw [hb', Bool.false_or, ← ih]
      by_cases h1 : Lib.indexAny l chars = -1
      · simp [h1]
      · rw [if_neg (by simpa using h1)]
        have : 0 ≤ Lib.indexAny l chars := by omega
        rw [decide_eq_true this, decide_eq_true (by omega)]
/-- The letters of what is not plain. -/
def badB (b : UInt8) : Bool := ([117, 62, 38] : List UInt8).contains b
theorem write_plain : ∀ ty : Ty, ty.write.any badB = !ty.plain
  | .bit => rfl
  | .pair a b => by
    have h1 : badB 40 = false := rfl
    have h2 : badB 42 = false := rfl
    have h3 : badB 32 = false := rfl
    have h4 : badB 41 = false := rfl
    simp only [Ty.write, Ty.plain, List.any_cons, List.any_append, List.any_nil, write_plain a, write_plain b, h1, h2, h3, h4]
    cases a.plain <;> cases b.plain <;> rfl
  | .thunk c => by simp [Ty.write, Ty.plain, badB]
  | .ret a => by
    have h1 : badB 40 = false := rfl
    have h2 : badB 102 = false := rfl
    have h3 : badB 32 = false := rfl
    have h4 : badB 41 = false := rfl
    simp only [Ty.write, Ty.plain, List.any_cons, List.any_append, List.any_nil, write_plain a, h1, h2, h3, h4]
    cases a.plain <;> rfl
  | .fn a c => by simp [Ty.write, Ty.plain, badB]
  | .choice c d => by simp [Ty.write, Ty.plain, badB]
theorem write_ascii : ∀ ty : Ty, ∀ b ∈ ty.write, b.toNat < 128
  | .bit => by intro b hb; simp [Ty.write] at hb; subst hb; decide
  | .pair a c => by
    have h1 := write_ascii a; have h2 := write_ascii c
    intro b hb; simp only [Ty.write, List.mem_cons, List.mem_append, List.not_mem_nil, or_false] at hb
    rcases hb with rfl | rfl | rfl | hb | rfl | hb | rfl <;> first | exact h1 _ hb | exact h2 _ hb | decide
  | .thunk c => by
    have h1 := write_ascii c
    intro b hb; simp only [Ty.write, List.mem_cons, List.mem_append, List.not_mem_nil, or_false] at hb
    rcases hb with rfl | rfl | rfl | hb | rfl <;> first | exact h1 _ hb | decide
  | .ret c => by
    have h1 := write_ascii c
    intro b hb; simp only [Ty.write, List.mem_cons, List.mem_append, List.not_mem_nil, or_false] at hb
    rcases hb with rfl | rfl | rfl | hb | rfl <;> first | exact h1 _ hb | decide
  | .fn a c => by
    have h1 := write_ascii a; have h2 := write_ascii c
    intro b hb; simp only [Ty.write, List.mem_cons, List.mem_append, List.not_mem_nil, or_false] at hb
    rcases hb with rfl | rfl | rfl | hb | rfl | hb | rfl <;> first | exact h1 _ hb | exact h2 _ hb | decide
  | .choice a c => by
    have h1 := write_ascii a; have h2 := write_ascii c
    intro b hb; simp only [Ty.write, List.mem_cons, List.mem_append, List.not_mem_nil, or_false] at hb
    rcases hb with rfl | rfl | rfl | hb | rfl | hb | rfl <;> first | exact h1 _ hb | exact h2 _ hb | decide

/-- What TypePlain tells. -/
def plainR (s : ByteArray) : Bool := match readTy s with
  | some ty => ty.plain
  | none => false

set_option maxHeartbeats 1000000 in
theorem implTypePlain_any (s : ByteArray) (hs : s.size ≤ 400000000) (w : World) : Calls Try.prog 10 #[.string s] w fun e w' => e = .returned (.bool (plainR s)) ∧ Below w.heap.size w w' := by
  have HC := hid (fun W => readType_any s hs W)
  cases hr : readTy s with
  | none =>
    have HR := hid hr
    clear hr
    go_enter Try.func10, Try.ntmps10
    go_wp2_with (go_at_call 23; refine (HC.out _).mono ?_; rintro e w1 hp; rw [HR.out] at hp; obtain ⟨rfl, hb1⟩ := hp.none; clear hp)
    go_ret
    exact ⟨ret_bool (by rw [plainR, HR.out]), hb1⟩
  | some ty =>
    have hw := readTy_write hr
    rw [Go.ByteArray.toList_eq] at hw
    have HD := hid (fun W => Try.strings_ContainsAny_laid s ({ data := #[117, 62, 38] } : ByteArray) W (by omega) (by decide) (by intro j b hb; rw [hw] at hb; exact write_ascii ty b (List.mem_of_getElem? hb)) (by intro j b hb; have := List.mem_of_getElem? hb; simp at this; rcases this with rfl | rfl | rfl <;> decide))
    have hca : Lib.containsAny s.data.toList ({ data := #[117, 62, 38] } : ByteArray).data.toList = !ty.plain := by
      rw [Lib.containsAny, indexAny_any, hw]; exact write_plain ty
    have HCA := hid hca
    have HR := hid hr
    clear hr hw hca
    go_enter Try.func10, Try.ntmps10
    go_wp2_with (first | (go_at_call 23; refine (HC.out _).mono ?_; rintro e w1 hp; rw [HR.out] at hp; obtain ⟨rfl, hb1⟩ := hp.some; clear hp) | (go_at_call 24; refine (HD.out _).mono ?_; rintro e w2 ⟨he2, hb2⟩; rw [HCA.out] at he2; subst he2))
    go_ret
    exact ⟨ret_bool (by rw [plainR, HR.out]), hb1.trans (hb2.mono hb1.size)⟩

end Go.Proofs.Ytlggbhakkhecmaa
