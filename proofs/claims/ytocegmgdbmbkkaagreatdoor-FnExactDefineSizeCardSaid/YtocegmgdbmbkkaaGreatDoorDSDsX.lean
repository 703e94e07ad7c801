/- DefineSize: the program, the model, the law. -/
import Derived.Test.YtocegmgdbmbkkaaGreatDoorDM30
import Derived.Test.YtocegmgdbmbkkaaGreatDoorDSSizeB
namespace Go.Proofs.YtocegmgdbmbkkaaGreatDoor
open Go.RowKit

theorem readTm_empty : readTm ByteArray.empty = none := by
  have hp : parse ByteArray.empty = none := by rfl
  cases h : readTm ByteArray.empty with
  | none => rfl
  | some m => obtain ⟨t, h1, _⟩ := readTm_inv h; rw [hp] at h1; cases h1
/-- What DefineSize answers. -/
def dsX (o : Option ByteArray) : Int := sizeOfT (o.getD ByteArray.empty)
theorem dsX_none : dsX none = -1 := sizeOf_none readTm_empty
theorem dfX_size {o : Option Ty} {k : Int} (hw : ∀ ty, o = some ty → ty.wf = true) : ((dfX o k).getD ByteArray.empty).size ≤ 400000000 := by
  cases o with
  | none => exact Nat.zero_le _
  | some ty =>
    have hwf := hw ty rfl
    rw [dfX]
    split
    · rename_i h
      obtain ⟨cn, hcn, _⟩ := cntV_pos h.1 h.2
      have hlen := smt_len (dt_sm ty (kn_of ty cn hwf hcn) k.toNat 0) (lt_12 hwf hcn)
      unfold tmX
      split
      · show (Tree.txt _).size ≤ _
        rw [txt_size]; omega
      · exact Nat.zero_le _
    · exact Nat.zero_le _

set_option maxRecDepth 100000 in
set_option maxHeartbeats 1000000 in
theorem implDefineSize_any (s : ByteArray) (hs : s.size ≤ 400000000) (k : Int) (w : World) : Calls Tryz.prog 9 #[.string s, .int .i64 k] w fun e w' => e = .returned (.int .i64 (dsX (dfX (readTy s) k))) ∧ Below w.heap.size w w' := by
  have HB := hid (fun W => implDefine_any s hs k W)
  have hsz := dfX_size (o := readTy s) (k := k) (fun ty h => readTy_wf h)
  obtain ⟨o, ho⟩ : ∃ o, dfX (readTy s) k = o := ⟨_, rfl⟩
  rw [ho] at HB hsz ⊢
  have HT := hid (fun W => implTermSize_any (o.getD ByteArray.empty) hsz W)
  have HD := hid (show sizeOfT (o.getD ByteArray.empty) = dsX o from rfl)
  obtain ⟨X, hX⟩ : ∃ X, o.getD ByteArray.empty = X := ⟨_, rfl⟩
  have HP := hid (fun W e W' (h : TxPost o W e W') => (show e = .returned (.tuple #[.string X, .bool o.isSome]) ∧ Below W.heap.size W W' from by rw [← hX]; exact h))
  rw [hX] at HT HD
  clear hX hsz ho
  go_enter Tryz.func9, Tryz.ntmps9
  go_wp2_with (first | (go_at_call 20; have _ := hb1; refine (HT.out _).mono ?_; rintro e w2 ⟨rfl, hb2⟩) | (go_at_call 7; refine (HB.out _).mono ?_; rintro e w1 hp; obtain ⟨rfl, hb1⟩ := HP.out _ _ _ hp; clear hp))
  go_ret
  exact ⟨ret_int HD.out, hb1.trans (hb2.mono hb1.size)⟩

set_option maxRecDepth 100000 in
set_option maxHeartbeats 1000000 in
theorem specDefineSize_any (s : ByteArray) (hs : s.size ≤ 400000000) (k : Int) (w : World) : Calls Tryz.prog 8 #[.string s, .int .i64 k] w fun e w' => e = .returned (.int .i64 (dsX (dfX (readTy s) k))) ∧ Below w.heap.size w w' := by
  have HB := hid (fun W => specDefine_any s hs k W)
  have hsz := dfX_size (o := readTy s) (k := k) (fun ty h => readTy_wf h)
  obtain ⟨o, ho⟩ : ∃ o, dfX (readTy s) k = o := ⟨_, rfl⟩
  rw [ho] at HB hsz ⊢
  cases o with
  | none =>
    have HD := hid dsX_none
    have HP := hid (fun W e W' (h : TxPost none W e W') => (show e = .returned (.tuple #[.string ByteArray.empty, .bool false]) ∧ Below W.heap.size W W' from h))
    clear hsz ho
    go_enter Tryz.func8, Tryz.ntmps8
    go_wp2_with (go_at_call 6; refine (HB.out _).mono ?_; rintro e w1 hp; obtain ⟨rfl, hb1⟩ := HP.out _ _ _ hp; clear hp)
    go_ret
    exact ⟨ret_int HD.out.symm, hb1⟩
  | some X =>
    have HT := hid (fun W => specTermSize_any X hsz W)
    have HD := hid (show sizeOfT X = dsX (some X) from rfl)
    have HP := hid (fun W e W' (h : TxPost (some X) W e W') => (show e = .returned (.tuple #[.string X, .bool true]) ∧ Below W.heap.size W W' from h))
    clear hsz ho
    go_enter Tryz.func8, Tryz.ntmps8
    go_wp2_with (first | (go_at_call 19; have _ := hb1; refine (HT.out _).mono ?_; rintro e w2 ⟨rfl, hb2⟩) | (go_at_call 6; refine (HB.out _).mono ?_; rintro e w1 hp; obtain ⟨rfl, hb1⟩ := HP.out _ _ _ hp; clear hp))
    go_ret
    exact ⟨ret_int HD.out, hb1.trans (hb2.mono hb1.size)⟩

set_option maxHeartbeats 1000000 in
theorem lawDefineSize (s : ByteArray) (hs : s.size ≤ 9223372036854775807) (k : Int) (w : World) : Calls Tryz.prog 4 #[.string s, .int .i64 k] w fun e w' => e = .returned (.bool true) ∧ Below w.heap.size w w' := by
  by_cases h : s.size ≤ 1048576
  · have HA := hid (fun W => specDefineSize_any s (by omega) k W)
    have HB := hid (fun W => implDefineSize_any s (by omega) k W)
    obtain ⟨X, hX⟩ : ∃ X, dsX (dfX (readTy s) k) = X := ⟨_, rfl⟩
    rw [hX] at HA HB
    have hq : (X != X) = false := by simp
    clear hX
    go_enter Tryz.func4, Tryz.ntmps4
    go_wp2_with (first | (go_at_call 8; refine (HA.out _).mono ?_; rintro e w1 ⟨rfl, hb1⟩) | (go_at_call 9; refine (HB.out _).mono ?_; rintro e w2 ⟨rfl, hb2⟩))
    go_ret
    exact ⟨rfl, hb1.trans (hb2.mono hb1.size)⟩
  · have h2 : 1048576 < s.size := by omega
    clear h
    go_enter Tryz.func4, Tryz.ntmps4
    go_wp2
    go_ret
    exact ⟨rfl, Below.refl _ _⟩
end Go.Proofs.YtocegmgdbmbkkaaGreatDoor
