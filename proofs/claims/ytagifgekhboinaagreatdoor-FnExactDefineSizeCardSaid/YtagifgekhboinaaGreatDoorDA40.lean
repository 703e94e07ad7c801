/- Merged: DsX, DsP, DeX. -/
import Derived.Test.YtagifgekhboinaaGreatDoorDA39
import Derived.Test.YtagifgekhboinaaGreatDoorDA33
import Derived.Test.YtagifgekhboinaaGreatDoorDA38
import Derived.Test.YtagifgekhboinaaGreatDoorDA11
namespace Go.Proofs.YtagifgekhboinaaGreatDoor
open Go.RowKit

theorem readTm_empty : readTm ByteArray.empty = none := by
  have hp : parse ByteArray.empty = none := by rfl
  cases h : readTm ByteArray.empty with
  | none => rfl
  | some m => obtain ⟨t, h1, _⟩ := readTm_inv h; rw [hp] at h1; cases h1
/-- What DefineSize answers. -/
def dsX (o : Option ByteArray) : Int := sizeOfT (o.getD ByteArray.empty)
theorem dsX_none : dsX none = -1 := sizeOf_none readTm_empty
theorem dfX_size {o : Option Ty} {k : Int} (hw : ∀ ty, o = some ty → ty.wf = true) : ((dfX o k).getD ByteArray.empty).size ≤ 400000000 := by
  cases o with
  | none => exact Nat.zero_le _
  | some ty =>
    have hwf := hw ty rfl
    rw [dfX]
    split
    · rename_i h
      obtain ⟨cn, hcn, _⟩ := cntV_pos h.1 h.2
      have hlen := smt_len (dt_sm ty (kn_of ty cn hwf hcn) k.toNat 0) (lt_12 hwf hcn)
      unfold tmX
      split
      · show (Tree.txt _).size ≤ _
        rw [txt_size]; omega
      · exact Nat.zero_le _
    · exact Nat.zero_le _

set_option maxRecDepth 100000 in
set_option maxHeartbeats 1000000 in
theorem implDefineSize_any (s : ByteArray) (hs : s.size ≤ 400000000) (k : Int) (w : World) : Calls Tryz.prog 6 #[.string s, .int .i64 k] w fun e w' => e = .returned (.int .i64 (dsX (dfX (readTy s) k))) ∧ Below w.heap.size w w' := by
  have HB := hid (fun W => implDefine_any s hs k W)
  have hsz := dfX_size (o := readTy s) (k := k) (fun ty h => readTy_wf h)
  obtain ⟨o, ho⟩ : ∃ o, dfX (readTy s) k = o := ⟨_, rfl⟩
  rw [ho] at HB hsz ⊢
  have HT := hid (fun W => implTermSize_any (o.getD ByteArray.empty) hsz W)
  have HD := hid (show sizeOfT (o.getD ByteArray.empty) = dsX o from rfl)
  obtain ⟨X, hX⟩ : ∃ X, o.getD ByteArray.empty = X := ⟨_, rfl⟩
  have HP := hid (fun W e W' (h : TxPost o W e W') => (show e = .returned (.tuple #[.string X, .bool o.isSome]) ∧ Below W.heap.size W W' from by rw [← hX]; exact h))
  rw [hX] at HT HD
  clear hX hsz ho
  go_enter Tryz.func6, Tryz.ntmps6
  go_wp2_with (first | (go_at_call 10; have _ := hb1; refine (HT.out _).mono ?_; rintro e w2 ⟨rfl, hb2⟩) | (go_at_call 8; refine (HB.out _).mono ?_; rintro e w1 hp; obtain ⟨rfl, hb1⟩ := HP.out _ _ _ hp; clear hp))
  go_ret
  exact ⟨ret_int HD.out, hb1.trans (hb2.mono hb1.size)⟩

set_option maxRecDepth 100000 in
set_option maxHeartbeats 1000000 in
theorem specDefineSize_any (s : ByteArray) (hs : s.size ≤ 400000000) (k : Int) (w : World) : Calls Tryz.prog 5 #[.string s, .int .i64 k] w fun e w' => e = .returned (.int .i64 (dsX (dfX (readTy s) k))) ∧ Below w.heap.size w w' := by
  have HB := hid (fun W => specDefine_any s hs k W)
  have hsz := dfX_size (o := readTy s) (k := k) (fun ty h => readTy_wf h)
  obtain ⟨o, ho⟩ : ∃ o, dfX (readTy s) k = o := ⟨_, rfl⟩
  rw [ho] at HB hsz ⊢
  cases o with
  | none =>
    have HD := hid dsX_none
    have HP := hid (fun W e W' (h : TxPost none W e W') => (show e = .returned (.tuple #[.string ByteArray.empty, .bool false]) ∧ Below W.heap.size W W' from h))
    clear hsz ho
    go_enter Tryz.func5, Tryz.ntmps5
    go_wp2_with (go_at_call 11; refine (HB.out _).mono ?_; rintro e w1 hp; obtain ⟨rfl, hb1⟩ := HP.out _ _ _ hp; clear hp)
    go_ret
    exact ⟨ret_int HD.out.symm, hb1⟩
  | some X =>
    have HT := hid (fun W => specTermSize_any X hsz W)
    have HD := hid (show sizeOfT X = dsX (some X) from rfl)
    have HP := hid (fun W e W' (h : TxPost (some X) W e W') => (show e = .returned (.tuple #[.string X, .bool true]) ∧ Below W.heap.size W W' from h))
    clear hsz ho
    go_enter Tryz.func5, Tryz.ntmps5
    go_wp2_with (first | (go_at_call 12; have _ := hb1; refine (HT.out _).mono ?_; rintro e w2 ⟨rfl, hb2⟩) | (go_at_call 11; refine (HB.out _).mono ?_; rintro e w1 hp; obtain ⟨rfl, hb1⟩ := HP.out _ _ _ hp; clear hp))
    go_ret
    exact ⟨ret_int HD.out, hb1.trans (hb2.mono hb1.size)⟩

set_option maxHeartbeats 1000000 in
theorem lawDefineSize (s : ByteArray) (hs : s.size ≤ 9223372036854775807) (k : Int) (w : World) : Calls Tryz.prog 3 #[.string s, .int .i64 k] w fun e w' => e = .returned (.bool true) ∧ Below w.heap.size w w' := by
  by_cases h : s.size ≤ 1048576
  · have HA := hid (fun W => specDefineSize_any s (by omega) k W)
    have HB := hid (fun W => implDefineSize_any s (by omega) k W)
    obtain ⟨X, hX⟩ : ∃ X, dsX (dfX (readTy s) k) = X := ⟨_, rfl⟩
    rw [hX] at HA HB
    have hq : (X != X) = false := by simp
    clear hX
    go_enter Tryz.func3, Tryz.ntmps3
    go_wp2_with (first | (go_at_call 5; refine (HA.out _).mono ?_; rintro e w1 ⟨rfl, hb1⟩) | (go_at_call 6; refine (HB.out _).mono ?_; rintro e w2 ⟨rfl, hb2⟩))
    go_ret
    exact ⟨rfl, hb1.trans (hb2.mono hb1.size)⟩
  · have h2 : 1048576 < s.size := by omega
    clear h
    go_enter Tryz.func3, Tryz.ntmps3
    go_wp2
    go_ret
    exact ⟨rfl, Below.refl _ _⟩
end Go.Proofs.YtagifgekhboinaaGreatDoor

namespace Go.Proofs.YtagifgekhboinaaGreatDoor
open Go.RowKit

/-- How many spaces stand in a row. -/
def spc (l : List UInt8) : Nat := l.count 32
theorem spc_append (a b : List UInt8) : spc (a ++ b) = spc a + spc b := List.count_append ..
theorem spc_atom {l : List UInt8} (h : ∀ b ∈ l, atomB b.toNat = true) : spc l = 0 := by
  refine List.count_eq_zero.2 fun hm => ?_
  have := h 32 hm
  revert this; decide
mutual
theorem write_spc : ∀ t : Tree, t.wk → spc t.write + 1 = t.size
  | .atom s, h => by
    rw [Tree.wk] at h
    rw [Tree.write, Tree.size, spc_atom h.2]
  | .node [], h => by rw [Tree.wk] at h; exact absurd rfl h.1
  | .node (p :: ps), h => by
    rw [Tree.wk, Tree.wks] at h
    have h1 := write_spc p h.2.1
    have h2 := writes_spc ps h.2.2
    rw [Tree.write, Tree.size, Tree.sizes]
    have e : spc (40 :: (p.write ++ (Tree.writes ps ++ [41]))) = spc p.write + spc (Tree.writes ps) := by
      show List.count 32 (40 :: (p.write ++ (Tree.writes ps ++ [41]))) = _
      rw [List.count_cons, List.count_append, List.count_append]
      simp [spc]
    rw [e]; omega
theorem writes_spc : ∀ ps : List Tree, Tree.wks ps → spc (Tree.writes ps) = Tree.sizes ps
  | [], _ => rfl
  | p :: ps, h => by
    rw [Tree.wks] at h
    have h1 := write_spc p h.1
    have h2 := writes_spc ps h.2
    rw [Tree.writes, Tree.sizes]
    have e : spc (32 :: (p.write ++ Tree.writes ps)) = 1 + (spc p.write + spc (Tree.writes ps)) := by
      show List.count 32 (32 :: (p.write ++ Tree.writes ps)) = _
      rw [List.count_cons, List.count_append]
      simp [spc]; omega
    rw [e]; omega
end
theorem tm_spc {T : Tree} {m : Tm} (h : readTm T.txt = some m) : m.size = spc T.write + 1 := by
  obtain ⟨t, hp, ht⟩ : ∃ t, parse T.txt = some t ∧ t.tm [] = some m := by
    obtain ⟨t, h1, h2, _⟩ := readTm_inv h
    exact ⟨t, h1, h2⟩
  rw [← tm_size t [] m ht, ← write_spc t (parse_wk hp).1, ← parse_write hp]
  rfl
/-- The defining term of a thunk, beside that of its computation. -/
theorem ds_thunk {c : Ty} {k : Int} {n : Int} (h : dsX (dfX (some c) k) = n) (hn : 0 ≤ n) : dsX (dfX (some (.thunk c)) k) = -1 ∨ dsX (dfX (some (.thunk c)) k) = n + 1 := by
  have hc : (Ty.thunk c).cnt = c.cnt := by rw [Ty.cnt]
  unfold dfX at h ⊢
  simp only at h ⊢
  rw [hc]
  split at h
  · rename_i hk
    rw [if_pos hk]
    rw [Ty.dt]
    unfold tmX at h ⊢
    split at h
    · rename_i h1
      obtain ⟨m0, hm0⟩ := Option.isSome_iff_exists.1 h1
      split
      · rename_i h2
        obtain ⟨m, hm⟩ := Option.isSome_iff_exists.1 h2
        right
        have e1 : dsX (some (c.dt k.toNat 0).1.txt) = (m0.size : Int) := by rw [dsX]; exact sizeOf_some hm0
        rw [e1] at h
        have e2 : dsX (some (Tree.node [.atom wThunk, (c.dt k.toNat 0).1]).txt) = (m.size : Int) := by rw [dsX]; exact sizeOf_some hm
        rw [e2, ← h, tm_spc hm, tm_spc hm0]
        have e : spc (Tree.node [.atom wThunk, (c.dt k.toNat 0).1]).write = spc (c.dt k.toNat 0).1.write + 1 := by
          rw [Tree.write, Tree.writes, Tree.writes, Tree.write]
          show List.count 32 (40 :: (wThunk.data.toList ++ (32 :: ((c.dt k.toNat 0).1.write ++ []) ++ [41]))) = _
          rw [List.count_cons, List.count_append, List.count_append, List.count_cons, List.count_append]
          have : List.count 32 wThunk.data.toList = 0 := by decide
          rw [this]
          simp [spc]
        rw [e]; omega
      · left; exact dsX_none
    · exfalso; rw [dsX_none] at h; omega
  · exfalso; rw [dsX_none] at h; omega
theorem ds_small {s : ByteArray} {k D : Int} (h : dsX (dfX (readTy s) k) = D) : D ≤ 1000000 := by
  rw [← h]
  unfold dsX sizeOfT
  split
  · rename_i m hm
    obtain ⟨t, _, _, _, h5⟩ := readTm_inv hm
    omega
  · decide
theorem ds_some {s : ByteArray} {k n : Int} (h : dsX (dfX (readTy s) k) = n) (hn : 0 ≤ n) : ∃ ty x, readTy s = some ty ∧ dfX (readTy s) k = some x ∧ sizeOfT x = n := by
  cases hr : readTy s with
  | none => exfalso; rw [hr] at h; have : dsX (dfX none k) = -1 := dsX_none; omega
  | some ty =>
    rw [hr] at h
    cases hd : dfX (some ty) k with
    | none => exfalso; rw [hd, dsX_none] at h; omega
    | some x => exact ⟨ty, x, rfl, rfl, by rw [hd] at h; exact h⟩
end Go.Proofs.YtagifgekhboinaaGreatDoor

namespace Go.Proofs.YtagifgekhboinaaGreatDoor
open Go.RowKit

set_option maxRecDepth 100000 in
set_option maxHeartbeats 4000000 in
theorem lawDefineSizeD {w : World} {p : Option Addr} {n c : Nat} {bs : List Int} (hl : bs.length = n) (hn : n ≤ 9223372036854775807) (hz : ∀ z ∈ bs, 0 ≤ z ∧ z ≤ 255) (hp : ∀ g o s, p = some ⟨g, o, s⟩ → n = 0 ∨ g < w.heap.size) (hv : Vals w p (u8s bs)) (hc : n ≤ c) :
    Calls Tryz.prog 4 #[.slice p n c] w fun e w' => e = .returned (.bool true) ∧ Below w.heap.size w w' := by
  by_cases h : n ≤ 1048576
  · have HD := hid (drawDefineSize_any hl (by omega) hz hp hv hc)
    clear hl hz hp hv
    go_enter Tryz.func4, Tryz.ntmps4
    go_wp2_with fail
    go_at_call 7
    refine HD.out.mono ?_
    rintro e w1 ⟨s, k, rfl, hs, hb1⟩
    have HB1 := hid hb1
    clear hb1
    have HB := hid (fun W => implDefineSize_any s (by omega) k W)
    have HA := hid (fun W => specDefineSize_any s (by omega) k W)
    obtain ⟨D, hD⟩ : ∃ D, dsX (dfX (readTy s) k) = D := ⟨_, rfl⟩
    rw [hD] at HA HB
    have hq : (D != D) = false := by simp
    have hq2 : (D == D) = true := by simp
    by_cases hneg : D < 0
    · go_wp2_with fail
      go_at_call 6
      refine (HB.out _).mono ?_
      rintro e w2 ⟨rfl, hb2⟩
      have HB2 := hid (HB1.out.trans (hb2.mono HB1.out.size))
      clear hb2
      go_wp2_with fail
      go_at_call 5
      refine (HA.out _).mono ?_
      rintro e w3 ⟨rfl, hb3⟩
      have HB3 := hid (HB2.out.trans (hb3.mono HB2.out.size))
      clear hb3
      go_wp2_with fail
      go_ret
      exact ⟨rfl, HB3.out⟩
    · obtain ⟨ty, x, hr, hx, hsx⟩ := ds_some hD (by omega)
      have hxs := dfX_size (o := readTy s) (k := k) (fun ty h => (readTy_wf h))
      rw [hx] at hxs
      have HDF := hid (fun W => (show Calls Tryz.prog 8 #[.string s, .int .i64 k] W fun e w' => e = .returned (.tuple #[.string x, .bool true]) ∧ Below W.heap.size W w' from by
        have h1 := implDefine_any s (by omega) k W
        rw [hx] at h1; exact h1))
      have HSZ := hid (fun W => (show Calls Tryz.prog 10 #[.string x] W fun e w' => e = .returned (.int .i64 D) ∧ Below W.heap.size W w' from by
        have h1 := implTermSize_any x hxs W
        rw [hsx] at h1; exact h1))
      have HTH := hid (fun W => implTypeThunk_any s (by omega) W)
      obtain ⟨T, Q, hT, hTs, hN⟩ : ∃ (T : ByteArray) (Q : Bool), thunkR s = .tuple #[.string T, .bool Q] ∧ T.size ≤ 100 ∧ (Q = false ∨ dsX (dfX (readTy T) k) = -1 ∨ dsX (dfX (readTy T) k) = D + 1) := by
        rcases lw_thunkR s with ⟨c, h1, h2, h3, h4, h5⟩ | h
        · refine ⟨_, _, h5, by rw [thunkS_size]; omega, Or.inr ?_⟩
          rw [h3]
          rw [h1] at hD
          exact ds_thunk hD (by omega)
        · exact ⟨_, _, h, by decide, Or.inl rfl⟩
      have HDT := hid (fun W => implDefineSize_any T (by omega) k W)
      obtain ⟨E, hE⟩ : ∃ E, dsX (dfX (readTy T) k) = E := ⟨_, rfl⟩
      rw [hE] at HDT hN
      rw [hT] at HTH
      have HD5 := hid (ds_small hD)
      clear hD hr hx hsx hxs hT hE
      go_wp2_with fail
      go_at_call 6
      refine (HB.out _).mono ?_
      rintro e w2 ⟨rfl, hb2⟩
      have HB2 := hid (HB1.out.trans (hb2.mono HB1.out.size))
      clear hb2
      go_wp2_with fail
      go_at_call 5
      refine (HA.out _).mono ?_
      rintro e w3 ⟨rfl, hb3⟩
      have HB3 := hid (HB2.out.trans (hb3.mono HB2.out.size))
      clear hb3
      go_wp2_with fail
      go_at_call 8
      refine (HDF.out _).mono ?_
      rintro e w4 ⟨rfl, hb4⟩
      have HB4 := hid (HB3.out.trans (hb4.mono HB3.out.size))
      clear hb4
      go_wp2_with fail
      go_at_call 9
      refine (HTH.out _).mono ?_
      rintro e w5 ⟨rfl, hb5⟩
      have HB5 := hid (HB4.out.trans (hb5.mono HB4.out.size))
      clear hb5
      go_wp2_with fail
      go_at_call 6
      refine (HDT.out _).mono ?_
      rintro e w6 ⟨rfl, hb6⟩
      have HB6 := hid (HB5.out.trans (hb6.mono HB5.out.size))
      clear hb6
      rcases hN with rfl | rfl | rfl
      · go_wp2_with (go_at_call 10; refine (HSZ.out _).mono ?_; rintro e w7 ⟨rfl, hb7⟩; have HB7 := hid (HB6.out.trans (hb7.mono HB6.out.size)); clear hb7)
        go_ret
        exact ⟨rfl, HB7.out⟩
      · cases Q
        all_goals
          go_wp2_with (go_at_call 10; refine (HSZ.out _).mono ?_; rintro e w7 ⟨rfl, hb7⟩; have HB7 := hid (HB6.out.trans (hb7.mono HB6.out.size)); clear hb7)
          go_ret
          exact ⟨rfl, HB7.out⟩
      · have hD5 : D ≤ 1000000 := HD5.out
        have he1 : (D + 1 == -1) = false := beq_eq_false_iff_ne.2 (by omega)
        have he2 : (D + 1 == D + 1) = true := by simp
        cases Q
        all_goals
          go_wp2_with (go_at_call 10; refine (HSZ.out _).mono ?_; rintro e w7 ⟨rfl, hb7⟩; have HB7 := hid (HB6.out.trans (hb7.mono HB6.out.size)); clear hb7)
          go_ret
          exact ⟨rfl, HB7.out⟩

  · have h2 : 1048576 < n := by omega
    clear h hl hz hp hv
    go_enter Tryz.func4, Tryz.ntmps4
    go_wp2
    go_ret
    exact ⟨rfl, Below.refl _ _⟩
end Go.Proofs.YtagifgekhboinaaGreatDoor
