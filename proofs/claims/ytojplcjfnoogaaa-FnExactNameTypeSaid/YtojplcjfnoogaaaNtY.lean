/- NameType: the program, the model, the law. -/
import Derived.Test.YtojplcjfnoogaaaNtW
import Derived.Test.YtojplcjfnoogaaaNtV
import Derived.Test.YtojplcjfnoogaaaSrcL
import Derived.Test.YtojplcjfnoogaaaTxP
import Derived.Test.YtojplcjfnoogaaaTyR
import Derived.Test.YtojplcjfnoogaaaKindS
namespace Go.Proofs.Ytojplcjfnoogaaa
open Go.RowKit

/-- What NameType answers. -/
def ntX (s : ByteArray) : Option ByteArray := match readSty s with
  | some x => if (readTy x.byn.txt).isSome then some x.byn.txt else none
  | none => none
/-- A text that is a type. -/
def ifTy (x : ByteArray) : Option ByteArray := if (readTy x).isSome then some x else none
set_option maxRecDepth 100000 in
set_option maxHeartbeats 2000000 in
theorem ifType_any (s : ByteArray) (hs : s.size ≤ 400000000) (w : World) : Calls Try.prog 10 #[.string s] w (TxPost (ifTy s) w) := by
  have HT := hid (fun W => readType_any s hs W)
  cases hty : readTy s with
  | none =>
    have HX := hid (show ifTy s = none by rw [ifTy, hty]; rfl)
    have HTY := hid hty
    clear hty
    go_enter Try.func10, Try.ntmps10
    go_wp2_with (go_at_call 19; refine (HT.out _).mono ?_; rintro e w3 hp; rw [HTY.out] at hp; obtain ⟨rfl, hb3⟩ := hp.none; clear hp)
    go_ret2
    rw [HX.out]
    exact txPost_none hb3
  | some ty =>
    have HX := hid (show ifTy s = some s by rw [ifTy, hty]; rfl)
    have HTY := hid hty
    obtain ⟨nx, vx, hx⟩ := ty.val_iface
    have HV := hid hx
    clear hty hx
    go_enter Try.func10, Try.ntmps10
    go_wp2_with (go_at_call 19; refine (HT.out _).mono ?_; rintro e w3 hp; rw [HTY.out] at hp; obtain ⟨he3, hb3⟩ := hp.some; clear hp; rw [HV.out] at he3; subst he3)
    go_ret2
    rw [HX.out]
    exact ⟨rfl, hb3⟩

set_option maxRecDepth 100000 in
set_option maxHeartbeats 2000000 in
theorem implNameType_any (s : ByteArray) (hs : s.size ≤ 400000000) (w : World) : Calls Try.prog 5 #[.string s] w (TxPost (ntX s) w) := by
  have HC := hid (fun W => readSourceType_any s hs W)
  cases hr : readSty s with
  | none =>
    have HR := hid hr
    have HX := hid (show ntX s = none by rw [ntX, hr])
    clear hr
    go_enter Try.func5, Try.ntmps5
    go_wp2_with (go_at_call 9; refine (HC.out _).mono ?_; rintro e w1 hp; rw [HR.out] at hp; obtain ⟨rfl, hb1⟩ := hp.none; clear hp)
    go_ret2
    rw [HX.out]
    exact txPost_none hb1
  | some x =>
    have HR := hid hr
    have hn := readSty_n hr
    have hsz : x.byn.txt.size ≤ 400000000 := by have := byn_len x; rw [txt_size]; omega
    have hx : ntX s = ifTy x.byn.txt := by rw [ntX, hr]; rfl
    obtain ⟨X, D, hX⟩ := txV_shape (ifTy x.byn.txt)
    have HT := hid (fun W => (ifType_any x.byn.txt hsz W).mono fun e W' (h : TxPost (ifTy x.byn.txt) W e W') => (show e = .returned (.tuple #[.string X, .bool D]) ∧ Below W.heap.size W W' from by rw [← hX]; exact h))
    have HX := hid (show txV (ntX s) = .tuple #[.string X, .bool D] by rw [hx, hX])
    clear hr hsz hx hX
    go_enter Try.func5, Try.ntmps5
    go_wp2_with (first | (go_at_call 9; refine (HC.out _).mono ?_; rintro e w1 hp; rw [HR.out] at hp; obtain ⟨a1, rfl, hb1, hn1⟩ := hp.some; clear hp; have HN1 := hid (byn_any hn1 (by omega) w1 (Kept.refl _) (Nat.le_refl _)); clear hn1) | (go_at_call 11; refine HN1.out.mono ?_; rintro e w2 ⟨rfl, hb2⟩) | (go_at_call 10; refine (HT.out _).mono ?_; rintro e w3 ⟨rfl, hb3⟩))
    go_ret2
    exact ⟨by rw [HX.out]; rfl, hb1.trans ((hb2.trans (hb3.mono hb2.size)).mono hb1.size)⟩

set_option maxRecDepth 100000 in
set_option maxHeartbeats 2000000 in
theorem specNameType_any (s : ByteArray) (hs : s.size ≤ 400000000) (w : World) : Calls Try.prog 4 #[.string s] w (TxPost (ntX s) w) := by
  have HC := hid (fun W => l7Typed_any s hs W)
  have HE := hid (styTree_eq s)
  cases hr : readSty s with
  | none =>
    have HR := hid (show styTree s = none by rw [HE.out, hr]; rfl)
    have HX := hid (show ntX s = none by rw [ntX, hr])
    clear hr
    go_enter Try.func4, Try.ntmps4
    go_wp2_with (go_at_call 6; refine (HC.out _).mono ?_; rintro e w1 hp; rw [HR.out] at hp; obtain ⟨pa, pp, pl, pc, rfl, hpl, hb1⟩ := hp.none; clear hp)
    go_ret2
    rw [HX.out]
    exact txPost_none (hb1.alloc hb1.size _)
  | some x =>
    have HR := hid (show styTree s = some x.tree by rw [HE.out, hr]; rfl)
    have hn := readSty_n hr
    have hsz : x.byn.txt.size ≤ 400000000 := by have := byn_len x; rw [txt_size]; omega
    have HT := hid (fun W => specTypeKind_any x.byn.txt hsz W)
    cases hty : readTy x.byn.txt with
    | none =>
      have HX := hid (show ntX s = none by rw [ntX, hr]; simp only; rw [hty]; rfl)
      rw [hty] at HT
      have HTY := HT
      clear hr hty hsz HT
      go_enter Try.func4, Try.ntmps4
      go_wp2_with (first | (go_at_call 6; refine (HC.out _).mono ?_; rintro e w1 hp; rw [HR.out] at hp; obtain ⟨pa, pp, pl, pc, rfl, hb1, ht⟩ := hp.some; clear hp; have HN1 := hid (fun W hk hs => l8ByName_any x ht (by omega) W hk hs); clear ht) | (go_at_call 7; refine (HTY.out _).mono ?_; rintro e w3 ⟨he3, hb3⟩; rw [show kindOf none = ByteArray.empty from rfl] at he3; subst he3) | (go_at_call 8; refine (HN1.out _ ((Kept.refl _).alloc (Nat.le_refl _) _) (by simp)).mono ?_; rintro e w2 ⟨rfl, hb2⟩))
      go_ret2
      rw [HX.out]
      have s1 := hb1.size; have s2 := hb2.size
      simp at s2
      exact txPost_none (hb1.trans ((((Below.refl _ _).alloc (Nat.le_refl _) _).trans ((hb2.mono (by simp)).trans (hb3.mono (by omega)))).mono hb1.size))
    | some ty =>
      have HX := hid (show ntX s = some x.byn.txt by rw [ntX, hr]; simp only; rw [hty]; rfl)
      rw [hty] at HT
      have hks := kindS_some ty
      obtain ⟨K, hK⟩ : ∃ K, K = ty.kindS := ⟨_, rfl⟩
      have HTY := hid (fun W => (show Calls Try.prog 7 #[.string x.byn.txt] W fun e w' => e = .returned (.string K) ∧ Below W.heap.size W w' from by rw [hK]; exact HT.out W))
      rw [← hK] at hks
      clear hr hty hsz HT hK
      go_enter Try.func4, Try.ntmps4
      go_wp2_with (first | (go_at_call 6; refine (HC.out _).mono ?_; rintro e w1 hp; rw [HR.out] at hp; obtain ⟨pa, pp, pl, pc, rfl, hb1, ht⟩ := hp.some; clear hp; have HN1 := hid (fun W hk hs => l8ByName_any x ht (by omega) W hk hs); clear ht) | (go_at_call 7; refine (HTY.out _).mono ?_; rintro e w3 ⟨rfl, hb3⟩; have s2 := hb2.size; simp at s2; have k3 := (cells_of_pair (block_below (block_below (heap_new w1 (.cells #[.string pa, .slice pp pl pc] 27) _ rfl) hb2 (by simp)) hb3 (by omega))); have HK3 := hid ((((Kept.refl w1).alloc (Nat.le_refl _) _).below hb2 (by simp)).below hb3 (by omega)); have HB3 := hid hb3; have s3 := hb3.size) | (have _ := HB3; go_at_call 8; refine (HN1.out _ HK3.out (by omega)).mono ?_; rintro e w4 ⟨rfl, hb4⟩) | (go_at_call 8; refine (HN1.out _ ((Kept.refl _).alloc (Nat.le_refl _) _) (by simp)).mono ?_; rintro e w2 ⟨rfl, hb2⟩))
      go_ret2
      rw [HX.out]
      exact ⟨rfl, hb1.trans ((((Below.refl _ _).alloc (Nat.le_refl _) _).trans ((hb2.mono (by simp)).trans ((hb3.mono (by omega)).trans (hb4.mono (by omega))))).mono hb1.size)⟩

set_option maxHeartbeats 1000000 in
theorem lawNameType (s : ByteArray) (hs : s.size ≤ 9223372036854775807) (w : World) : Calls Try.prog 3 #[.string s] w fun e w' => e = .returned (.bool true) ∧ Below w.heap.size w w' := by
  by_cases h : s.size ≤ 1048576
  · have HA := hid (fun W => specNameType_any s (by omega) W)
    have HB := hid (fun W => implNameType_any s (by omega) W)
    obtain ⟨X, D, hX⟩ := txV_shape (ntX s)
    have HP := hid (fun W e W' (h : TxPost (ntX s) W e W') => (show e = .returned (.tuple #[.string X, .bool D]) ∧ Below W.heap.size W W' from by rw [← hX]; exact h))
    have hq : (!X.toList == X.toList) = false := by simp
    have hq2 : (D != D) = false := by simp
    clear hX
    go_enter Try.func3, Try.ntmps3
    go_wp2_with (first | (go_at_call 4; refine (HA.out _).mono ?_; rintro e w1 hp; obtain ⟨rfl, hb1⟩ := HP.out _ _ _ hp; clear hp) | (go_at_call 5; refine (HB.out _).mono ?_; rintro e w2 hp; obtain ⟨rfl, hb2⟩ := HP.out _ _ _ hp; clear hp))
    go_ret
    exact ⟨rfl, hb1.trans (hb2.mono hb1.size)⟩
  · have h2 : 1048576 < s.size := by omega
    clear h
    go_enter Try.func3, Try.ntmps3
    go_wp2
    go_ret
    exact ⟨rfl, Below.refl _ _⟩
end Go.Proofs.Ytojplcjfnoogaaa
