/- Merged: SizeXJ, SizeXI. -/
import Derived.Test.YtagifgekhboinaaGreatDoorDASExtN
import Derived.Test.YtagifgekhboinaaGreatDoorDA28
import Derived.Test.YtagifgekhboinaaGreatDoorDA0
namespace Go.Proofs.YtagifgekhboinaaGreatDoor
open Go.RowKit

theorem read_ex {s : ByteArray} {m : Tm} (h : readTm s = some m) : m.ex.ok ∧ m.ex.a = m.size := by
  obtain ⟨t, hp, ht, hts, _⟩ := readTm_inv h
  obtain ⟨_, hd, hl⟩ := parse_wk hp
  have he := tm_ex t [] m ht
  rw [← he]
  refine ⟨⟨?_, ?_, ?_⟩, tm_size t [] m ht⟩
  · show t.size ≤ _; omega
  · show t.write.length ≤ _; omega
  · show t.dp - 1 ≤ _; omega
set_option maxRecDepth 100000 in
theorem exField0 (a b n : Int) (w : World) : (Instr.field 44 (.agg #[.int .i64 a, .int .i64 b, .int .i64 n]) 0).run Tryz.prog w = .ok (.int .i64 a) w := by kernel_rfl
/-- What TermSize answers. -/
def sizeOfT (s : ByteArray) : Int := match readTm s with
  | some m => (m.size : Int)
  | none => -1
theorem sizeOf_none {s : ByteArray} (h : readTm s = none) : sizeOfT s = -1 := by rw [sizeOfT, h]
theorem sizeOf_some {s : ByteArray} {m : Tm} (h : readTm s = some m) : sizeOfT s = (m.size : Int) := by rw [sizeOfT, h]

set_option maxRecDepth 100000 in
set_option maxHeartbeats 1000000 in
theorem implTermSize_any (s : ByteArray) (hs : s.size ≤ 400000000) (w : World) : Calls Tryz.prog 10 #[.string s] w fun e w' => e = .returned (.int .i64 (sizeOfT s)) ∧ Below w.heap.size w w' := by
  have HC := hid (fun W => readTerm_any s hs W)
  cases hr : readTm s with
  | none =>
    have HR := hid hr
    have HS := hid (sizeOf_none hr)
    clear hr
    go_enter Tryz.func10, Tryz.ntmps10
    go_wp2_with (go_at_call 17; refine (HC.out _).mono ?_; rintro e w1 hp; rw [HR.out] at hp; obtain ⟨rfl, hb1⟩ := hp.none; clear hp)
    go_ret
    exact ⟨ret_int HS.out.symm, hb1⟩
  | some m =>
    have HR := hid hr
    have HS := hid (sizeOf_some hr)
    obtain ⟨t, _, _, _, hms⟩ := readTm_inv hr
    obtain ⟨hok, hza⟩ := read_ex hr
    have HOK := hid hok
    have HZA := hid hza
    clear hr hok hza
    go_enter Tryz.func10, Tryz.ntmps10
    go_wp2_with fail
    go_at_call 17
    refine (HC.out _).mono ?_
    rintro e w1 hp
    rw [HR.out] at hp
    obtain ⟨b1, rfl, hb1, hn1⟩ := hp.some
    have HN := hid hn1
    clear hp hn1
    go_wp2_with fail
    go_at_call 18
    refine (show Calls Tryz.prog 18 #[.pointer (some ⟨b1, 0, none⟩)] w1 fun e w' => e = .returned (.agg #[.int .i64 (m.size : Int), .int .i64 (m.ex.b : Int), .int .i64 (m.ex.n : Int)]) ∧ Below w1.heap.size w1 w' from by rw [← HZA.out]; exact extent_any HN.out HOK.out w1 (Kept.refl _) (Nat.le_refl _)).mono ?_
    rintro e w2 ⟨rfl, hb2⟩
    have hft := exField0
    go_wp2_with fail
    go_ret
    exact ⟨ret_int HS.out.symm, hb1.trans (hb2.mono hb1.size)⟩

end Go.Proofs.YtagifgekhboinaaGreatDoor

namespace Go.Proofs.YtagifgekhboinaaGreatDoor
open Go.RowKit

set_option maxRecDepth 100000 in
set_option maxHeartbeats 1000000 in
theorem specTermSize_any (s : ByteArray) (hs : s.size ≤ 400000000) (w : World) : Calls Tryz.prog 12 #[.string s] w fun e w' => e = .returned (.int .i64 (sizeOfT s)) ∧ Below w.heap.size w w' := by
  have HC := hid (fun W => l2Term_any s hs W)
  cases ht : termTree s with
  | none =>
    have HR := hid (sizeOf_none (termTree_none ht))
    have HT := hid ht
    clear ht
    go_enter Tryz.func12, Tryz.ntmps12
    go_wp2_with (go_at_call 24; refine (HC.out _).mono ?_; rintro e w1 hp; rw [HT.out] at hp; obtain ⟨pa, pp, pl, pc, rfl, hpl, hb1⟩ := hp.none; clear hp)
    go_ret
    exact ⟨ret_int HR.out.symm, hb1.alloc hb1.size _⟩
  | some t =>
    obtain ⟨hpt, hso, hsz, m, hm, htm⟩ := termTree_some ht
    have HR := hid ((sizeOf_some hm).trans (by rw [← tm_size t [] m htm]))
    have HT := hid ht
    have hsz2 : t.size ≤ 12000 := by omega
    clear ht hpt hso hm htm
    go_enter Tryz.func12, Tryz.ntmps12
    go_wp2_with (first | (go_at_call 24; refine (HC.out _).mono ?_; rintro e w1 hp; rw [HT.out] at hp; obtain ⟨pa, pp, pl, pc, rfl, hb1, htr⟩ := hp.some; clear hp; have HD := hid (fun W hk hs => l1Size_any htr hsz2 W hk hs); clear htr) | (go_at_call 25; refine (HD.out _ ((Kept.refl _).alloc (Nat.le_refl _) _) (by simp)).mono ?_; rintro e w2 ⟨rfl, hb2⟩))
    go_ret
    have s1 := hb1.size
    exact ⟨ret_int HR.out.symm, hb1.trans (((Below.refl _ _).alloc s1 _).trans (hb2.mono (by simp; omega)))⟩

end Go.Proofs.YtagifgekhboinaaGreatDoor
