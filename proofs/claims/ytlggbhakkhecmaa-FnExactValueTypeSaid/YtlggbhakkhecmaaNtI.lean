/- NameType of the program and of the model, ifType. -/
import Derived.Test.YtlggbhakkhecmaaNtW
import Derived.Test.YtlggbhakkhecmaaNtV
import Derived.Test.YtlggbhakkhecmaaSrcL
import Derived.Test.YtlggbhakkhecmaaTxP
import Derived.Test.YtlggbhakkhecmaaTyR
import Derived.Test.YtlggbhakkhecmaaKindS
namespace Go.Proofs.Ytlggbhakkhecmaa
open Go.RowKit

/-- What NameType answers. -/
def ntX (s : ByteArray) : Option ByteArray := match readSty s with
  | some x => if (readTy x.byn.txt).isSome then some x.byn.txt else none
  | none => none
/-- A text that is a type. -/
def ifTy (x : ByteArray) : Option ByteArray := if (readTy x).isSome then some x else none
set_option maxRecDepth 100000 in
set_option maxHeartbeats 2000000 in
theorem ifType_any (s : ByteArray) (hs : s.size ≤ 400000000) (w : World) : Calls Try.prog 18 #[.string s] w (TxPost (ifTy s) w) := by
  have HT := hid (fun W => readType_any s hs W)
  cases hty : readTy s with
  | none =>
    have HX := hid (show ifTy s = none by rw [ifTy, hty]; rfl)
    have HTY := hid hty
    clear hty
    go_enter Try.func18, Try.ntmps18
    go_wp2_with (go_at_call 23; refine (HT.out _).mono ?_; rintro e w3 hp; rw [HTY.out] at hp; obtain ⟨rfl, hb3⟩ := hp.none; clear hp)
    go_ret2
    rw [HX.out]
    exact txPost_none hb3
  | some ty =>
    have HX := hid (show ifTy s = some s by rw [ifTy, hty]; rfl)
    have HTY := hid hty
    obtain ⟨nx, vx, hx⟩ := ty.val_iface
    have HV := hid hx
    clear hty hx
    go_enter Try.func18, Try.ntmps18
    go_wp2_with (go_at_call 23; refine (HT.out _).mono ?_; rintro e w3 hp; rw [HTY.out] at hp; obtain ⟨he3, hb3⟩ := hp.some; clear hp; rw [HV.out] at he3; subst he3)
    go_ret2
    rw [HX.out]
    exact ⟨rfl, hb3⟩

set_option maxRecDepth 100000 in
set_option maxHeartbeats 2000000 in
theorem implNameType_any (s : ByteArray) (hs : s.size ≤ 400000000) (w : World) : Calls Try.prog 12 #[.string s] w (TxPost (ntX s) w) := by
  have HC := hid (fun W => readSourceType_any s hs W)
  cases hr : readSty s with
  | none =>
    have HR := hid hr
    have HX := hid (show ntX s = none by rw [ntX, hr])
    clear hr
    go_enter Try.func12, Try.ntmps12
    go_wp2_with (go_at_call 17; refine (HC.out _).mono ?_; rintro e w1 hp; rw [HR.out] at hp; obtain ⟨rfl, hb1⟩ := hp.none; clear hp)
    go_ret2
    rw [HX.out]
    exact txPost_none hb1
  | some x =>
    have HR := hid hr
    have hn := readSty_n hr
    have hsz : x.byn.txt.size ≤ 400000000 := by have := byn_len x; rw [txt_size]; omega
    have hx : ntX s = ifTy x.byn.txt := by rw [ntX, hr]; rfl
    obtain ⟨X, D, hX⟩ := txV_shape (ifTy x.byn.txt)
    have HT := hid (fun W => (ifType_any x.byn.txt hsz W).mono fun e W' (h : TxPost (ifTy x.byn.txt) W e W') => (show e = .returned (.tuple #[.string X, .bool D]) ∧ Below W.heap.size W W' from by rw [← hX]; exact h))
    have HX := hid (show txV (ntX s) = .tuple #[.string X, .bool D] by rw [hx, hX])
    clear hr hsz hx hX
    go_enter Try.func12, Try.ntmps12
    go_wp2_with (first | (go_at_call 17; refine (HC.out _).mono ?_; rintro e w1 hp; rw [HR.out] at hp; obtain ⟨a1, rfl, hb1, hn1⟩ := hp.some; clear hp; have HN1 := hid (byn_any hn1 (by omega) w1 (Kept.refl _) (Nat.le_refl _)); clear hn1) | (go_at_call 25; refine HN1.out.mono ?_; rintro e w2 ⟨rfl, hb2⟩) | (go_at_call 18; refine (HT.out _).mono ?_; rintro e w3 ⟨rfl, hb3⟩))
    go_ret2
    exact ⟨by rw [HX.out]; rfl, hb1.trans ((hb2.trans (hb3.mono hb2.size)).mono hb1.size)⟩

set_option maxRecDepth 100000 in
set_option maxHeartbeats 2000000 in
theorem specNameType_any (s : ByteArray) (hs : s.size ≤ 400000000) (w : World) : Calls Try.prog 13 #[.string s] w (TxPost (ntX s) w) := by
  have HC := hid (fun W => l7Typed_any s hs W)
  have HE := hid (styTree_eq s)
  cases hr : readSty s with
  | none =>
    have HR := hid (show styTree s = none by rw [HE.out, hr]; rfl)
    have HX := hid (show ntX s = none by rw [ntX, hr])
    clear hr
    go_enter Try.func13, Try.ntmps13
    go_wp2_with (go_at_call 20; refine (HC.out _).mono ?_; rintro e w1 hp; rw [HR.out] at hp; obtain ⟨pa, pp, pl, pc, rfl, hpl, hb1⟩ := hp.none; clear hp)
    go_ret2
    rw [HX.out]
    exact txPost_none (hb1.alloc hb1.size _)
  | some x =>
    have HR := hid (show styTree s = some x.tree by rw [HE.out, hr]; rfl)
    have hn := readSty_n hr
    have hsz : x.byn.txt.size ≤ 400000000 := by have := byn_len x; rw [txt_size]; omega
    have HT := hid (fun W => specTypeKind_any x.byn.txt hsz W)
    cases hty : readTy x.byn.txt with
    | none =>
      have HX := hid (show ntX s = none by rw [ntX, hr]; simp only; rw [hty]; rfl)
      rw [hty] at HT
      have HTY := HT
      clear hr hty hsz HT
      go_enter Try.func13, Try.ntmps13
      go_wp2_with (first | (go_at_call 20; refine (HC.out _).mono ?_; rintro e w1 hp; rw [HR.out] at hp; obtain ⟨pa, pp, pl, pc, rfl, hb1, ht⟩ := hp.some; clear hp; have HN1 := hid (fun W hk hs => l8ByName_any x ht (by omega) W hk hs); clear ht) | (go_at_call 21; refine (HTY.out _).mono ?_; rintro e w3 ⟨he3, hb3⟩; rw [show kindOf none = ByteArray.empty from rfl] at he3; subst he3) | (go_at_call 26; refine (HN1.out _ ((Kept.refl _).alloc (Nat.le_refl _) _) (by simp)).mono ?_; rintro e w2 ⟨rfl, hb2⟩))
      go_ret2
      rw [HX.out]
      have s1 := hb1.size; have s2 := hb2.size
      simp at s2
      exact txPost_none (hb1.trans ((((Below.refl _ _).alloc (Nat.le_refl _) _).trans ((hb2.mono (by simp)).trans (hb3.mono (by omega)))).mono hb1.size))
    | some ty =>
      have HX := hid (show ntX s = some x.byn.txt by rw [ntX, hr]; simp only; rw [hty]; rfl)
      rw [hty] at HT
      have hks := kindS_some ty
      obtain ⟨K, hK⟩ : ∃ K, K = ty.kindS := ⟨_, rfl⟩
      have HTY := hid (fun W => (show Calls Try.prog 21 #[.string x.byn.txt] W fun e w' => e = .returned (.string K) ∧ Below W.heap.size W w' from by rw [hK]; exact HT.out W))
      rw [← hK] at hks
      clear hr hty hsz HT hK
      go_enter Try.func13, Try.ntmps13
      go_wp2_with (first | (go_at_call 20; refine (HC.out _).mono ?_; rintro e w1 hp; rw [HR.out] at hp; obtain ⟨pa, pp, pl, pc, rfl, hb1, ht⟩ := hp.some; clear hp; have HN1 := hid (fun W hk hs => l8ByName_any x ht (by omega) W hk hs); clear ht) | (go_at_call 21; refine (HTY.out _).mono ?_; rintro e w3 ⟨rfl, hb3⟩; have s2 := hb2.size; simp at s2; have k3 := (cells_of_pair (block_below (block_below (heap_new w1 (.cells #[.string pa, .slice pp pl pc] 38) _ rfl) hb2 (by simp)) hb3 (by omega))); have HK3 := hid ((((Kept.refl w1).alloc (Nat.le_refl _) _).below hb2 (by simp)).below hb3 (by omega)); have HB3 := hid hb3; have s3 := hb3.size) | (have _ := HB3; go_at_call 26; refine (HN1.out _ HK3.out (by omega)).mono ?_; rintro e w4 ⟨rfl, hb4⟩) | (go_at_call 26; refine (HN1.out _ ((Kept.refl _).alloc (Nat.le_refl _) _) (by simp)).mono ?_; rintro e w2 ⟨rfl, hb2⟩))
      go_ret2
      rw [HX.out]
      exact ⟨rfl, hb1.trans ((((Below.refl _ _).alloc (Nat.le_refl _) _).trans ((hb2.mono (by simp)).trans ((hb3.mono (by omega)).trans (hb4.mono (by omega))))).mono hb1.size)⟩
end Go.Proofs.Ytlggbhakkhecmaa
