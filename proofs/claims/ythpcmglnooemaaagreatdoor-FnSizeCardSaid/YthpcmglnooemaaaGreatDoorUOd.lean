/- Merged: UOSizeXI, UOLtSize. -/
import Derived.Test.YthpcmglnooemaaaGreatDoorUOExtN
import Derived.Test.YthpcmglnooemaaaGreatDoorUM32
import Derived.Test.YthpcmglnooemaaaGreatDoorUM0
import Derived.Test.YthpcmglnooemaaaGreatDoorUOb
import Derived.Test.YthpcmglnooemaaaGreatDoorUM46
import Derived.Test.YthpcmglnooemaaaGreatDoorUM30
namespace Go.Proofs.YthpcmglnooemaaaGreatDoor
open Go.RowKit

theorem read_ex {s : ByteArray} {m : Tm} (h : readTm s = some m) : m.ex.ok ∧ m.ex.a = m.size := by
  obtain ⟨t, hp, ht, hts, _⟩ := readTm_inv h
  obtain ⟨_, hd, hl⟩ := parse_wk hp
  have he := tm_ex t [] m ht
  rw [← he]
  refine ⟨⟨?_, ?_, ?_⟩, tm_size t [] m ht⟩
  · show t.size ≤ _; omega
  · show t.write.length ≤ _; omega
  · show t.dp - 1 ≤ _; omega
set_option maxRecDepth 100000 in
theorem exField0 (a b n : Int) (w : World) : (Instr.field 63 (.agg #[.int .i64 a, .int .i64 b, .int .i64 n]) 0).run Tryz.prog w = .ok (.int .i64 a) w := by kernel_rfl
/-- What TermSize answers. -/
def sizeOfT (s : ByteArray) : Int := match readTm s with
  | some m => (m.size : Int)
  | none => -1
theorem sizeOf_none {s : ByteArray} (h : readTm s = none) : sizeOfT s = -1 := by rw [sizeOfT, h]
theorem sizeOf_some {s : ByteArray} {m : Tm} (h : readTm s = some m) : sizeOfT s = (m.size : Int) := by rw [sizeOfT, h]

set_option maxRecDepth 100000 in
set_option maxHeartbeats 1000000 in
theorem implTermSize_any (s : ByteArray) (hs : s.size ≤ 400000000) (w : World) : Calls Tryz.prog 20 #[.string s] w fun e w' => e = .returned (.int .i64 (sizeOfT s)) ∧ Below w.heap.size w w' := by
  have HC := hid (fun W => readTerm_any s hs W)
  cases hr : readTm s with
  | none =>
    have HR := hid hr
    have HS := hid (sizeOf_none hr)
    clear hr
    go_enter Tryz.func20, Tryz.ntmps20
    go_wp2_with (go_at_call 42; refine (HC.out _).mono ?_; rintro e w1 hp; rw [HR.out] at hp; obtain ⟨rfl, hb1⟩ := hp.none; clear hp)
    go_ret
    exact ⟨ret_int HS.out.symm, hb1⟩
  | some m =>
    have HR := hid hr
    have HS := hid (sizeOf_some hr)
    obtain ⟨t, _, _, _, hms⟩ := readTm_inv hr
    obtain ⟨hok, hza⟩ := read_ex hr
    have HOK := hid hok
    have HZA := hid hza
    clear hr hok hza
    go_enter Tryz.func20, Tryz.ntmps20
    go_wp2_with fail
    go_at_call 42
    refine (HC.out _).mono ?_
    rintro e w1 hp
    rw [HR.out] at hp
    obtain ⟨b1, rfl, hb1, hn1⟩ := hp.some
    have HN := hid hn1
    clear hp hn1
    go_wp2_with fail
    go_at_call 52
    refine (show Calls Tryz.prog 52 #[.pointer (some ⟨b1, 0, none⟩)] w1 fun e w' => e = .returned (.agg #[.int .i64 (m.size : Int), .int .i64 (m.ex.b : Int), .int .i64 (m.ex.n : Int)]) ∧ Below w1.heap.size w1 w' from by rw [← HZA.out]; exact extent_any HN.out HOK.out w1 (Kept.refl _) (Nat.le_refl _)).mono ?_
    rintro e w2 ⟨rfl, hb2⟩
    have hft := exField0
    go_wp2_with fail
    go_ret
    exact ⟨ret_int HS.out.symm, hb1.trans (hb2.mono hb1.size)⟩

set_option maxRecDepth 100000 in
set_option maxHeartbeats 1000000 in
theorem specTermSize_any (s : ByteArray) (hs : s.size ≤ 400000000) (w : World) : Calls Tryz.prog 33 #[.string s] w fun e w' => e = .returned (.int .i64 (sizeOfT s)) ∧ Below w.heap.size w w' := by
  have HC := hid (fun W => l2Term_any s hs W)
  cases ht : termTree s with
  | none =>
    have HR := hid (sizeOf_none (termTree_none ht))
    have HT := hid ht
    clear ht
    go_enter Tryz.func33, Tryz.ntmps33
    go_wp2_with (go_at_call 44; refine (HC.out _).mono ?_; rintro e w1 hp; rw [HT.out] at hp; obtain ⟨pa, pp, pl, pc, rfl, hpl, hb1⟩ := hp.none; clear hp)
    go_ret
    exact ⟨ret_int HR.out.symm, hb1.alloc hb1.size _⟩
  | some t =>
    obtain ⟨hpt, hso, hsz, m, hm, htm⟩ := termTree_some ht
    have HR := hid ((sizeOf_some hm).trans (by rw [← tm_size t [] m htm]))
    have HT := hid ht
    have hsz2 : t.size ≤ 12000 := by omega
    clear ht hpt hso hm htm
    go_enter Tryz.func33, Tryz.ntmps33
    go_wp2_with (first | (go_at_call 44; refine (HC.out _).mono ?_; rintro e w1 hp; rw [HT.out] at hp; obtain ⟨pa, pp, pl, pc, rfl, hb1, htr⟩ := hp.some; clear hp; have HD := hid (fun W hk hs => l1Size_any htr hsz2 W hk hs); clear htr) | (go_at_call 62; refine (HD.out _ ((Kept.refl _).alloc (Nat.le_refl _) _) (by simp)).mono ?_; rintro e w2 ⟨rfl, hb2⟩))
    go_ret
    have s1 := hb1.size
    exact ⟨ret_int HR.out.symm, hb1.trans (((Below.refl _ _).alloc s1 _).trans (hb2.mono (by simp; omega)))⟩



set_option maxRecDepth 100000 in
set_option maxHeartbeats 4000000 in
theorem lawSizeD {w : World} {p : Option Addr} {n c : Nat} {bs : List Int} (hl : bs.length = n) (hn : n ≤ 9223372036854775807) (hz : ∀ z ∈ bs, 0 ≤ z ∧ z ≤ 255) (hp : ∀ g o s, p = some ⟨g, o, s⟩ → n = 0 ∨ g < w.heap.size) (hv : Vals w p (u8s bs)) (hc : n ≤ c) :
    Calls Tryz.prog 8 #[.slice p n c] w fun e w' => e = .returned (.bool true) ∧ Below w.heap.size w w' := by
  by_cases h : n ≤ 1048576
  · obtain ⟨S, hS⟩ : ∃ S : Nat, S = 60000000 := ⟨_, rfl⟩
    have HD := hid (drawTermSize_any hS hl (by omega) hz hp hv hc)
    clear hl hz hp hv
    go_enter Tryz.func8, Tryz.ntmps8
    go_wp2_with fail
    go_at_call 32
    refine HD.out.mono ?_
    rintro e w1 ⟨s, rfl, hs, hb1⟩
    have HB1 := hid hb1
    clear hb1
    have HB := hid (fun W => implTermSize_any s (by omega) W)
    have HA := hid (fun W => specTermSize_any s (by omega) W)
    cases hx : readTm s with
    | none =>
      rw [sizeOf_none hx] at HA HB
      clear hx
      go_wp2_with fail
      go_at_call 20
      refine (HB.out _).mono ?_
      rintro e w2 ⟨rfl, hb2⟩
      have HB2 := hid (HB1.out.trans (hb2.mono HB1.out.size))
      clear hb2
      go_wp2_with fail
      go_at_call 33
      refine (HA.out _).mono ?_
      rintro e w3 ⟨rfl, hb3⟩
      have HB3 := hid (HB2.out.trans (hb3.mono HB2.out.size))
      clear hb3
      go_wp2_with fail
      go_ret
      exact ⟨rfl, HB3.out⟩
    | some m =>
      rw [sizeOf_some hx] at HA HB
      have HKD := hid (fun W => (implTermKids_any s (by omega) W).mono fun e w' h => lt_kids_post hx h)
      have HKI := hid (fun (i : Nat) (k : Tm) (h : m.ks[i]? = some k) W => (show Calls Tryz.prog 20 #[.string k.txt] W fun e w' => e = .returned (.int .i64 (k.size : Int)) ∧ Below W.heap.size W w' from by
        obtain ⟨k', hk'⟩ := lt_kid hx (List.mem_of_getElem? h)
        have h2 := implTermSize_any k.txt (by have := hk'.len; omega) W
        rw [sizeOf_some hk'.read, hk'.size] at h2; exact h2))
      obtain ⟨_, _, _, _, hms⟩ := readTm_inv hx
      have hkz := ks_size m
      obtain ⟨L, hL⟩ : ∃ L, m.ks = L := ⟨_, rfl⟩
      obtain ⟨k0, hk0⟩ : ∃ k0, L.length = k0 := ⟨_, rfl⟩
      have hk4 : k0 ≤ 4 := by rw [← hk0, ← hL]; exact lt_kids4 hx
      have HM := hid hk0
      rw [hL] at HKD HKI hkz
      rw [hk0] at HKD
      obtain ⟨M, hM⟩ : ∃ M, m.size = M := ⟨_, rfl⟩
      rw [hM] at HA HB hms hkz
      clear hx hL hk0 hM
      go_wp2_with fail
      go_at_call 20
      refine (HB.out _).mono ?_
      rintro e w2 ⟨rfl, hb2⟩
      have HB2 := hid (HB1.out.trans (hb2.mono HB1.out.size))
      clear hb2
      go_wp2_with fail
      go_at_call 33
      refine (HA.out _).mono ?_
      rintro e w3 ⟨rfl, hb3⟩
      have HB3 := hid (HB2.out.trans (hb3.mono HB2.out.size))
      clear hb3
      go_wp2_with fail
      go_at_call 15
      refine (HKD.out _).mono ?_
      rintro e w4 ⟨q, d, rfl, hv4, hu4, hb4⟩
      have HB4 := hid (HB3.out.trans (hb4.mono HB3.out.size))
      have HV4 := hid hv4
      have HU4 := hid hu4
      clear hv4 hu4
      clear hb4
      go_wp2_with fail
      go_loopw [8, 9] (fun v u wr => ∃ i : Nat, i ≤ k0 ∧ u = .int .i64 (i : Int) ∧ v = .int .i64 (Tm.sizes (L.take i) : Int) ∧ Hid (Below w4.heap.size w4 wr)) (fun _ u _ => k0 - (intOf u).toNat)
      case atStart => exact ⟨0, Nat.zero_le _, rfl, by simp [Tm.sizes], hid (Below.refl _ _)⟩
      case round =>
        obtain ⟨i, hi, rfl, rfl, hbel⟩ := hrel
        have htk := tmsizes_take L i
        by_cases hlt : i < k0
        · obtain ⟨k, hk⟩ : ∃ k, L[i]? = some k := ⟨_, List.getElem?_eq_getElem (by rw [HM.out]; exact hlt)⟩
          obtain ⟨b2, o2, hbo, hcz⟩ := HV4.out i _ (lt_get hk)
          subst hbo
          have HC := hid (fun W => HKI.out i k hk W)
          have hcc := (hbel.out.cell (p := ⟨b2, o2 + i, none⟩) (HU4.out b2 o2 rfl)).trans hcz
          have hsn := tmsizes_snoc L i k hk
          have htk2 := tmsizes_take L (i + 1)
          have hbd : Tm.sizes (L.take i) + k.size ≤ 1500 := by omega
          have HSN := hid hsn
          clear hk hcz hsn htk2
          go_wp2_with fail
          go_at_call 20
          refine (HC.out _).mono ?_
          rintro e w5 ⟨rfl, hb5⟩
          go_wp2_with fail
          go_roundw
          case rel => exact ⟨i + 1, by omega, by go_num, by rw [HSN.out]; go_num, hid (hbel.out.trans (hb5.mono hbel.out.size))⟩
          case measure => simp [intOf]; omega
        · have hin : i = k0 := by omega
          subst hin
          have HBE := hid (HB4.out.trans (hbel.out.mono HB4.out.size))
          have HTE := hid (show L.take i = L from List.take_of_length_le (by rw [HM.out]; omega))
          rw [HTE.out] at htk ⊢
          have hl1 : (Tm.sizes L : Int) < (M : Int) := by omega
          have hl2 : (1 : Int) ≤ (M : Int) := by omega
          clear hbel HU4 HV4
          go_wp2_with fail
          go_ret
          exact ⟨rfl, HBE.out⟩
  · have h2 : 1048576 < (n : Int) := by omega
    clear hl hz hp hv
    go_enter Tryz.func8, Tryz.ntmps8
    go_wp2_with fail
    go_ret
    exact ⟨rfl, Below.refl _ _⟩

end Go.Proofs.YthpcmglnooemaaaGreatDoor
