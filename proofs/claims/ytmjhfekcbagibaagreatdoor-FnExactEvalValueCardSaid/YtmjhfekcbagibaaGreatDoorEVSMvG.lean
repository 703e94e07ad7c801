/- Merged: MvG. -/
import Derived.Test.YtmjhfekcbagibaaGreatDoorEVSMvE
import Derived.Test.YtmjhfekcbagibaaGreatDoorEV13
import Derived.Test.YtmjhfekcbagibaaGreatDoorEV24
namespace Go.Proofs.YtmjhfekcbagibaaGreatDoor
open Go.RowKit

set_option maxRecDepth 100000 in
set_option maxHeartbeats 2000000 in
theorem l7Print_bit {n : Nat} (hn : n ≤ 1) (w : World) : Calls Tryz.prog 9 #[.agg #[.string ({ data := #[98, 105, 116] } : ByteArray), .int .i64 (n : Int), .slice none 0 0, .string ByteArray.empty, .slice none 0 0, .slice none 0 0, .slice none 0 0]] w fun e w' => e = .returned (.string (bitS n)) ∧ Below w.heap.size w w' := by
  have HD := hid (fun W => l6Dec_bit n hn W)
  go_enter Tryz.func9, Tryz.ntmps9
  go_wp2_with (go_at_call 20; refine (HD.out _).mono ?_; rintro e w1 ⟨rfl, hb1⟩)
  go_ret
  exact ⟨rfl, ((Below.refl _ _).alloc (Nat.le_refl _) _).trans (hb1.mono (by simp))⟩
set_option maxRecDepth 100000 in
set_option maxHeartbeats 2000000 in
theorem l7Print_fun {n0 : Int} {pp : Option Addr} {pl pc : Nat} {fa : ByteArray} {fp : Option Addr} {fl fc : Nat} {np : Option Addr} {nl nc : Nat} {vp : Option Addr} {vl vc : Nat} (w : World) : Calls Tryz.prog 9 #[.agg #[.string ({ data := #[102, 117, 110] } : ByteArray), .int .i64 n0, .slice pp pl pc, .string fa, .slice fp fl fc, .slice np nl nc, .slice vp vl vc]] w fun e w' => e = .returned (.string ({ data := #[116, 104, 117, 110, 107] } : ByteArray)) ∧ Below w.heap.size w w' := by
  go_enter Tryz.func9, Tryz.ntmps9
  go_wp2_with fail
  go_ret
  exact ⟨rfl, (Below.refl _ _).alloc (Nat.le_refl _) _⟩
set_option maxRecDepth 100000 in
set_option maxHeartbeats 4000000 in
theorem l7Print_pair {w : World} {g c : Nat} {A B : ByteArray} {k1 : ByteArray} {n1 : Int} {pp1 : Option Addr} {pl1 pc1 : Nat} {fa1 : ByteArray} {fp1 : Option Addr} {fl1 fc1 : Nat} {np1 : Option Addr} {nl1 nc1 : Nat} {vp1 : Option Addr} {vl1 vc1 : Nat} {k2 : ByteArray} {n2 : Int} {pp2 : Option Addr} {pl2 pc2 : Nat} {fa2 : ByteArray} {fp2 : Option Addr} {fl2 fc2 : Nat} {np2 : Option Addr} {nl2 nc2 : Nat} {vp2 : Option Addr} {vl2 vc2 : Nat} (hA : A.size ≤ 24000) (hB : B.size ≤ 24000) (hr : w.cell? ⟨g, 0, none⟩ = some (.string k1) ∧ w.cell? ⟨g, 1, none⟩ = some (.int .i64 n1) ∧ w.cell? ⟨g, 2, none⟩ = some (.slice pp1 pl1 pc1) ∧ w.cell? ⟨g, 3, none⟩ = some (.string fa1) ∧ w.cell? ⟨g, 4, none⟩ = some (.slice fp1 fl1 fc1) ∧ w.cell? ⟨g, 5, none⟩ = some (.slice np1 nl1 nc1) ∧ w.cell? ⟨g, 6, none⟩ = some (.slice vp1 vl1 vc1) ∧ w.cell? ⟨g, 7, none⟩ = some (.string k2) ∧ w.cell? ⟨g, 8, none⟩ = some (.int .i64 n2) ∧ w.cell? ⟨g, 9, none⟩ = some (.slice pp2 pl2 pc2) ∧ w.cell? ⟨g, 10, none⟩ = some (.string fa2) ∧ w.cell? ⟨g, 11, none⟩ = some (.slice fp2 fl2 fc2) ∧ w.cell? ⟨g, 12, none⟩ = some (.slice np2 nl2 nc2) ∧ w.cell? ⟨g, 13, none⟩ = some (.slice vp2 vl2 vc2))
    (H1 : ∀ W, Below w.heap.size w W → Calls Tryz.prog 9 #[.agg #[.string k1, .int .i64 n1, .slice pp1 pl1 pc1, .string fa1, .slice fp1 fl1 fc1, .slice np1 nl1 nc1, .slice vp1 vl1 vc1]] W fun e w' => e = .returned (.string A) ∧ Below W.heap.size W w')
    (H2 : ∀ W, Below w.heap.size w W → Calls Tryz.prog 9 #[.agg #[.string k2, .int .i64 n2, .slice pp2 pl2 pc2, .string fa2, .slice fp2 fl2 fc2, .slice np2 nl2 nc2, .slice vp2 vl2 vc2]] W fun e w' => e = .returned (.string B) ∧ Below W.heap.size W w') :
    Calls Tryz.prog 9 #[.agg #[.string ({ data := #[112, 97, 105, 114] } : ByteArray), .int .i64 0, .slice (some ⟨g, 0, none⟩) 2 c, .string ByteArray.empty, .slice none 0 0, .slice none 0 0, .slice none 0 0]] w fun e w' => e = .returned (.string (((({ data := #[40, 112, 97, 105, 114, 32] } : ByteArray) ++ A) ++ ({ data := #[32] } : ByteArray)) ++ B ++ ({ data := #[41] } : ByteArray))) ∧ Below w.heap.size w w' := by
  have s1 : ¬ 9223372036854775807 < 6 + A.size := by omega
  have s2 : ¬ 9223372036854775807 < 6 + A.size + 1 := by omega
  have s3 : ¬ 9223372036854775807 < 6 + A.size + 1 + B.size := by omega
  have s4 : ¬ 9223372036854775807 < 6 + A.size + 1 + B.size + 1 := by omega
  have HC1 := hid H1
  have HC2 := hid H2
  have hb0 : Below w.heap.size w (w.alloc (.cells #[.string ({ data := #[112, 97, 105, 114] } : ByteArray), .int .i64 0, .slice (some ⟨g, 0, none⟩) 2 c, .string ByteArray.empty, .slice none 0 0, .slice none 0 0, .slice none 0 0] 34)) := (Below.refl _ _).alloc (Nat.le_refl _) _
  have KS := hid (fun (W : World) (h : Below (w.alloc (.cells #[.string ({ data := #[112, 97, 105, 114] } : ByteArray), .int .i64 0, .slice (some ⟨g, 0, none⟩) 2 c, .string ByteArray.empty, .slice none 0 0, .slice none 0 0, .slice none 0 0] 34)).heap.size (w.alloc (.cells #[.string ({ data := #[112, 97, 105, 114] } : ByteArray), .int .i64 0, .slice (some ⟨g, 0, none⟩) 2 c, .string ByteArray.empty, .slice none 0 0, .slice none 0 0, .slice none 0 0] 34)) W) => (show W.cell? ⟨w.heap.size, 2, none⟩ = some (.slice (some ⟨g, 0, none⟩) 2 c) ∧ W.cell? ⟨g, 0, none⟩ = some (.string k1) ∧ W.cell? ⟨g, 1, none⟩ = some (.int .i64 n1) ∧ W.cell? ⟨g, 2, none⟩ = some (.slice pp1 pl1 pc1) ∧ W.cell? ⟨g, 3, none⟩ = some (.string fa1) ∧ W.cell? ⟨g, 4, none⟩ = some (.slice fp1 fl1 fc1) ∧ W.cell? ⟨g, 5, none⟩ = some (.slice np1 nl1 nc1) ∧ W.cell? ⟨g, 6, none⟩ = some (.slice vp1 vl1 vc1) ∧ W.cell? ⟨g, 7, none⟩ = some (.string k2) ∧ W.cell? ⟨g, 8, none⟩ = some (.int .i64 n2) ∧ W.cell? ⟨g, 9, none⟩ = some (.slice pp2 pl2 pc2) ∧ W.cell? ⟨g, 10, none⟩ = some (.string fa2) ∧ W.cell? ⟨g, 11, none⟩ = some (.slice fp2 fl2 fc2) ∧ W.cell? ⟨g, 12, none⟩ = some (.slice np2 nl2 nc2) ∧ W.cell? ⟨g, 13, none⟩ = some (.slice vp2 vl2 vc2) from by
    have hk : Below w.heap.size w W := hb0.trans (h.mono (by simp))
    have kc : ∀ i v, w.cell? ⟨g, i, none⟩ = some v → W.cell? ⟨g, i, none⟩ = some v := fun i v hv => (World.cell?_of_block (w := w) (hk.block g (World.block_lt_of_cell? w _ hv))).trans hv
    obtain ⟨r0, r1, r2, r3, r4, r5, r6, r7, r8, r9, r10, r11, r12, r13⟩ := hr
    have c2 := (cells_of_7 (block_below (heap_new w (.cells #[.string ({ data := #[112, 97, 105, 114] } : ByteArray), .int .i64 0, .slice (some ⟨g, 0, none⟩) 2 c, .string ByteArray.empty, .slice none 0 0, .slice none 0 0, .slice none 0 0] 34) w.heap.size rfl) h (by simp))).1.2.2.1
    exact ⟨c2, kc _ _ r0, kc _ _ r1, kc _ _ r2, kc _ _ r3, kc _ _ r4, kc _ _ r5, kc _ _ r6, kc _ _ r7, kc _ _ r8, kc _ _ r9, kc _ _ r10, kc _ _ r11, kc _ _ r12, kc _ _ r13⟩))
  have HB0 := hid hb0
  have hd := KS.out _ (Below.refl _ _)
  have HD := hid hd
  have hgl : g < w.heap.size := World.block_lt_of_cell? w _ hr.1
  obtain ⟨d0, d1, d2, d3, d4, d5, d6, d7, d8, d9, d10, d11, d12, d13, d14⟩ := hd
  clear H1 H2 hb0 hr
  go_enter Tryz.func9, Tryz.ntmps9
  go_wp2_with fail
  go_region_held3 (fun w' => w'.cell? ⟨w.heap.size, 2, none⟩ = some (.slice (some ⟨g, 0, none⟩) 2 c) ∧ w'.cell? ⟨g, 0, none⟩ = some (.string k1) ∧ w'.cell? ⟨g, 1, none⟩ = some (.int .i64 n1) ∧ w'.cell? ⟨g, 2, none⟩ = some (.slice pp1 pl1 pc1) ∧ w'.cell? ⟨g, 3, none⟩ = some (.string fa1) ∧ w'.cell? ⟨g, 4, none⟩ = some (.slice fp1 fl1 fc1) ∧ w'.cell? ⟨g, 5, none⟩ = some (.slice np1 nl1 nc1) ∧ w'.cell? ⟨g, 6, none⟩ = some (.slice vp1 vl1 vc1) ∧ w'.cell? ⟨g, 7, none⟩ = some (.string k2) ∧ w'.cell? ⟨g, 8, none⟩ = some (.int .i64 n2) ∧ w'.cell? ⟨g, 9, none⟩ = some (.slice pp2 pl2 pc2) ∧ w'.cell? ⟨g, 10, none⟩ = some (.string fa2) ∧ w'.cell? ⟨g, 11, none⟩ = some (.slice fp2 fl2 fc2) ∧ w'.cell? ⟨g, 12, none⟩ = some (.slice np2 nl2 nc2) ∧ w'.cell? ⟨g, 13, none⟩ = some (.slice vp2 vl2 vc2))
    (first | with_reducible exact HD.out | with_reducible exact E3.out | with_reducible exact E2.out | with_reducible exact KS.out _ ((Below.refl _ _).drew) | exact HD.out)
    (first
      | (have _ := HB2; go_at_call 9; refine (HC2.out _ (HB0.out.trans (HB2.out.mono (by simp)))).mono ?_; rintro e w3 ⟨rfl, hb3⟩; have hb03 := below_nx hb3 HB2.out; have E3 := hid (KS.out w3 hb03); have HB3 := hid hb03; clear hb3 hb03)
      | (go_at_call 9; refine (HC1.out _ (by first | exact HB0.out.drew | exact HB0.out)).mono ?_; rintro e w2 ⟨rfl, hb2⟩; have hb02 := below_nx hb2 ((Below.refl _ _).drew); have E2 := hid (KS.out w2 hb02); have HB2 := hid hb02; clear hb2 hb02))
  go_wp2_with fail
  go_ret
  exact ⟨rfl, HB0.out.trans (HB3.out.mono (by simp))⟩
theorem prt_pair_txt (a b : Sv) : (Sv.pair a b).prt.txt = (((({ data := #[40, 112, 97, 105, 114, 32] } : ByteArray) ++ a.prt.txt) ++ ({ data := #[32] } : ByteArray)) ++ b.prt.txt ++ ({ data := #[41] } : ByteArray)) := by
  apply ByteArray.ext; apply Array.toList_inj.1
  simp [Sv.prt, Tree.txt, Tree.write, Tree.writes]

set_option maxRecDepth 100000 in
set_option maxHeartbeats 2000000 in
theorem l7Left_bit {n L M : Nat} (hL : L = M + 1) (hL2 : L ≤ 1000000) (w : World) : Calls Tryz.prog 8 #[.agg #[.string ({ data := #[98, 105, 116] } : ByteArray), .int .i64 (n : Int), .slice none 0 0, .string ByteArray.empty, .slice none 0 0, .slice none 0 0, .slice none 0 0], .int .i64 (L : Int)] w fun e w' => e = .returned (.int .i64 (M : Int)) ∧ Below w.heap.size w w' := by
  have hs : IntKind.i64.wrap ((L : Int) - 1) = (M : Int) := by rw [IntWalk.i64_in _ (by omega)]; omega
  clear hL
  go_enter Tryz.func8, Tryz.ntmps8
  go_wp2_with fail
  go_ret
  exact ⟨rfl, (Below.refl _ _).alloc (Nat.le_refl _) _⟩
set_option maxRecDepth 100000 in
set_option maxHeartbeats 2000000 in
theorem l7Left_fun {n0 : Int} {pp : Option Addr} {pl pc : Nat} {fa : ByteArray} {fp : Option Addr} {fl fc : Nat} {np : Option Addr} {nl nc : Nat} {vp : Option Addr} {vl vc : Nat} {L M : Nat} (hL : L = M + 5) (hL2 : L ≤ 1000000) (w : World) : Calls Tryz.prog 8 #[.agg #[.string ({ data := #[102, 117, 110] } : ByteArray), .int .i64 n0, .slice pp pl pc, .string fa, .slice fp fl fc, .slice np nl nc, .slice vp vl vc], .int .i64 (L : Int)] w fun e w' => e = .returned (.int .i64 (M : Int)) ∧ Below w.heap.size w w' := by
  have hs : IntKind.i64.wrap ((L : Int) - 5) = (M : Int) := by rw [IntWalk.i64_in _ (by omega)]; omega
  clear hL
  go_enter Tryz.func8, Tryz.ntmps8
  go_wp2_with fail
  go_ret
  exact ⟨rfl, (Below.refl _ _).alloc (Nat.le_refl _) _⟩
set_option maxRecDepth 100000 in
set_option maxHeartbeats 4000000 in
theorem l7Left_pair {w : World} {g c L K M N : Nat} {k1 : ByteArray} {n1 : Int} {pp1 : Option Addr} {pl1 pc1 : Nat} {fa1 : ByteArray} {fp1 : Option Addr} {fl1 fc1 : Nat} {np1 : Option Addr} {nl1 nc1 : Nat} {vp1 : Option Addr} {vl1 vc1 : Nat} {k2 : ByteArray} {n2 : Int} {pp2 : Option Addr} {pl2 pc2 : Nat} {fa2 : ByteArray} {fp2 : Option Addr} {fl2 fc2 : Nat} {np2 : Option Addr} {nl2 nc2 : Nat} {vp2 : Option Addr} {vl2 vc2 : Nat} (hL : L = K + 8) (hL2 : L ≤ 1000000) (hr : w.cell? ⟨g, 0, none⟩ = some (.string k1) ∧ w.cell? ⟨g, 1, none⟩ = some (.int .i64 n1) ∧ w.cell? ⟨g, 2, none⟩ = some (.slice pp1 pl1 pc1) ∧ w.cell? ⟨g, 3, none⟩ = some (.string fa1) ∧ w.cell? ⟨g, 4, none⟩ = some (.slice fp1 fl1 fc1) ∧ w.cell? ⟨g, 5, none⟩ = some (.slice np1 nl1 nc1) ∧ w.cell? ⟨g, 6, none⟩ = some (.slice vp1 vl1 vc1) ∧ w.cell? ⟨g, 7, none⟩ = some (.string k2) ∧ w.cell? ⟨g, 8, none⟩ = some (.int .i64 n2) ∧ w.cell? ⟨g, 9, none⟩ = some (.slice pp2 pl2 pc2) ∧ w.cell? ⟨g, 10, none⟩ = some (.string fa2) ∧ w.cell? ⟨g, 11, none⟩ = some (.slice fp2 fl2 fc2) ∧ w.cell? ⟨g, 12, none⟩ = some (.slice np2 nl2 nc2) ∧ w.cell? ⟨g, 13, none⟩ = some (.slice vp2 vl2 vc2))
    (H1 : ∀ W, Below w.heap.size w W → Calls Tryz.prog 8 #[.agg #[.string k1, .int .i64 n1, .slice pp1 pl1 pc1, .string fa1, .slice fp1 fl1 fc1, .slice np1 nl1 nc1, .slice vp1 vl1 vc1], .int .i64 (K : Int)] W fun e w' => e = .returned (.int .i64 (M : Int)) ∧ Below W.heap.size W w')
    (H2 : ∀ W, Below w.heap.size w W → Calls Tryz.prog 8 #[.agg #[.string k2, .int .i64 n2, .slice pp2 pl2 pc2, .string fa2, .slice fp2 fl2 fc2, .slice np2 nl2 nc2, .slice vp2 vl2 vc2], .int .i64 (M : Int)] W fun e w' => e = .returned (.int .i64 (N : Int)) ∧ Below W.heap.size W w') :
    Calls Tryz.prog 8 #[.agg #[.string ({ data := #[112, 97, 105, 114] } : ByteArray), .int .i64 0, .slice (some ⟨g, 0, none⟩) 2 c, .string ByteArray.empty, .slice none 0 0, .slice none 0 0, .slice none 0 0], .int .i64 (L : Int)] w fun e w' => e = .returned (.int .i64 (N : Int)) ∧ Below w.heap.size w w' := by
  have hs : IntKind.i64.wrap ((L : Int) - 8) = (K : Int) := by rw [IntWalk.i64_in _ (by omega)]; omega
  have HC1 := hid H1
  have HC2 := hid H2
  have hb0 : Below w.heap.size w (w.alloc (.cells #[.string ({ data := #[112, 97, 105, 114] } : ByteArray), .int .i64 0, .slice (some ⟨g, 0, none⟩) 2 c, .string ByteArray.empty, .slice none 0 0, .slice none 0 0, .slice none 0 0] 34)) := (Below.refl _ _).alloc (Nat.le_refl _) _
  have KS := hid (fun (W : World) (h : Below (w.alloc (.cells #[.string ({ data := #[112, 97, 105, 114] } : ByteArray), .int .i64 0, .slice (some ⟨g, 0, none⟩) 2 c, .string ByteArray.empty, .slice none 0 0, .slice none 0 0, .slice none 0 0] 34)).heap.size (w.alloc (.cells #[.string ({ data := #[112, 97, 105, 114] } : ByteArray), .int .i64 0, .slice (some ⟨g, 0, none⟩) 2 c, .string ByteArray.empty, .slice none 0 0, .slice none 0 0, .slice none 0 0] 34)) W) => (show W.cell? ⟨w.heap.size, 2, none⟩ = some (.slice (some ⟨g, 0, none⟩) 2 c) ∧ W.cell? ⟨g, 0, none⟩ = some (.string k1) ∧ W.cell? ⟨g, 1, none⟩ = some (.int .i64 n1) ∧ W.cell? ⟨g, 2, none⟩ = some (.slice pp1 pl1 pc1) ∧ W.cell? ⟨g, 3, none⟩ = some (.string fa1) ∧ W.cell? ⟨g, 4, none⟩ = some (.slice fp1 fl1 fc1) ∧ W.cell? ⟨g, 5, none⟩ = some (.slice np1 nl1 nc1) ∧ W.cell? ⟨g, 6, none⟩ = some (.slice vp1 vl1 vc1) ∧ W.cell? ⟨g, 7, none⟩ = some (.string k2) ∧ W.cell? ⟨g, 8, none⟩ = some (.int .i64 n2) ∧ W.cell? ⟨g, 9, none⟩ = some (.slice pp2 pl2 pc2) ∧ W.cell? ⟨g, 10, none⟩ = some (.string fa2) ∧ W.cell? ⟨g, 11, none⟩ = some (.slice fp2 fl2 fc2) ∧ W.cell? ⟨g, 12, none⟩ = some (.slice np2 nl2 nc2) ∧ W.cell? ⟨g, 13, none⟩ = some (.slice vp2 vl2 vc2) from by
    have hk : Below w.heap.size w W := hb0.trans (h.mono (by simp))
    have kc : ∀ i v, w.cell? ⟨g, i, none⟩ = some v → W.cell? ⟨g, i, none⟩ = some v := fun i v hv => (World.cell?_of_block (w := w) (hk.block g (World.block_lt_of_cell? w _ hv))).trans hv
    obtain ⟨r0, r1, r2, r3, r4, r5, r6, r7, r8, r9, r10, r11, r12, r13⟩ := hr
    have c2 := (cells_of_7 (block_below (heap_new w (.cells #[.string ({ data := #[112, 97, 105, 114] } : ByteArray), .int .i64 0, .slice (some ⟨g, 0, none⟩) 2 c, .string ByteArray.empty, .slice none 0 0, .slice none 0 0, .slice none 0 0] 34) w.heap.size rfl) h (by simp))).1.2.2.1
    exact ⟨c2, kc _ _ r0, kc _ _ r1, kc _ _ r2, kc _ _ r3, kc _ _ r4, kc _ _ r5, kc _ _ r6, kc _ _ r7, kc _ _ r8, kc _ _ r9, kc _ _ r10, kc _ _ r11, kc _ _ r12, kc _ _ r13⟩))
  have HB0 := hid hb0
  have hd := KS.out _ (Below.refl _ _)
  have hgl : g < w.heap.size := World.block_lt_of_cell? w _ hr.1
  obtain ⟨d0, d1, d2, d3, d4, d5, d6, d7, d8, d9, d10, d11, d12, d13, d14⟩ := hd
  clear H1 H2 hb0 hr hL
  go_enter Tryz.func8, Tryz.ntmps8
  go_wp2_with (first
    | (have _ := HB2; go_at_call 8; refine (HC2.out _ (HB0.out.trans (HB2.out.mono (by simp)))).mono ?_; rintro e w3 ⟨rfl, hb3⟩; have HB3 := hid (below_nx hb3 HB2.out); clear hb3)
    | (go_at_call 8; refine (HC1.out _ HB0.out).mono ?_; rintro e w2 ⟨rfl, hb2⟩; obtain ⟨f0, f1, f2, f3, f4, f5, f6, f7, f8, f9, f10, f11, f12, f13, f14⟩ := KS.out w2 hb2; have HB2 := hid hb2; clear hb2))
  go_ret
  exact ⟨rfl, HB0.out.trans (HB3.out.mono (by simp))⟩

theorem skept_below {S : Nat → Prop} {W0 w W : World} (h : SKept S (fun _ => True) W0 w) (hb : Below w.heap.size w W) : SKept S (fun _ => True) W0 W :=
  ⟨fun k hk hl => (hb.block k (Nat.lt_of_lt_of_le hl h.siz)).trans (h.blk k hk hl), fun _ _ _ => trivial, Nat.le_trans h.siz hb.size⟩
theorem mv_pair2 {S : Nat → Prop} {w0 w W : World} {a b : Sv} {cs : List Value} (h : MvIn S w0 w (.pair a b) cs) (hk : SKept S (fun _ => True) w W) : ∃ (g c : Nat) (k1 : ByteArray) (n1 : Int) (pp1 : Option Addr) (pl1 pc1 : Nat) (fa1 : ByteArray) (fp1 : Option Addr) (fl1 fc1 : Nat) (np1 : Option Addr) (nl1 nc1 : Nat) (vp1 : Option Addr) (vl1 vc1 : Nat) (k2 : ByteArray) (n2 : Int) (pp2 : Option Addr) (pl2 pc2 : Nat) (fa2 : ByteArray) (fp2 : Option Addr) (fl2 fc2 : Nat) (np2 : Option Addr) (nl2 nc2 : Nat) (vp2 : Option Addr) (vl2 vc2 : Nat), cs = [.string ({ data := #[112, 97, 105, 114] } : ByteArray), .int .i64 0, .slice (some ⟨g, 0, none⟩) 2 c, .string ByteArray.empty, .slice none 0 0, .slice none 0 0, .slice none 0 0] ∧ (W.cell? ⟨g, 0, none⟩ = some (.string k1) ∧ W.cell? ⟨g, 1, none⟩ = some (.int .i64 n1) ∧ W.cell? ⟨g, 2, none⟩ = some (.slice pp1 pl1 pc1) ∧ W.cell? ⟨g, 3, none⟩ = some (.string fa1) ∧ W.cell? ⟨g, 4, none⟩ = some (.slice fp1 fl1 fc1) ∧ W.cell? ⟨g, 5, none⟩ = some (.slice np1 nl1 nc1) ∧ W.cell? ⟨g, 6, none⟩ = some (.slice vp1 vl1 vc1) ∧ W.cell? ⟨g, 7, none⟩ = some (.string k2) ∧ W.cell? ⟨g, 8, none⟩ = some (.int .i64 n2) ∧ W.cell? ⟨g, 9, none⟩ = some (.slice pp2 pl2 pc2) ∧ W.cell? ⟨g, 10, none⟩ = some (.string fa2) ∧ W.cell? ⟨g, 11, none⟩ = some (.slice fp2 fl2 fc2) ∧ W.cell? ⟨g, 12, none⟩ = some (.slice np2 nl2 nc2) ∧ W.cell? ⟨g, 13, none⟩ = some (.slice vp2 vl2 vc2)) ∧ MvIn S w0 w a [.string k1, .int .i64 n1, .slice pp1 pl1 pc1, .string fa1, .slice fp1 fl1 fc1, .slice np1 nl1 nc1, .slice vp1 vl1 vc1] ∧ MvIn S w0 w b [.string k2, .int .i64 n2, .slice pp2 pl2 pc2, .string fa2, .slice fp2 fl2 fc2, .slice np2 nl2 nc2, .slice vp2 vl2 vc2] := by
  cases h with
  | pair _ _ ca cb g c hg hla hlb hra hrb ha hb =>
    obtain ⟨k1, n1, pp1, pl1, pc1, fa1, fp1, fl1, fc1, np1, nl1, nc1, vp1, vl1, vc1, rfl⟩ := ha.seven
    obtain ⟨k2, n2, pp2, pl2, pc2, fa2, fp2, fl2, fc2, np2, nl2, nc2, vp2, vl2, vc2, rfl⟩ := hb.seven
    have r := fun i v h => hk.cell hg (hra i v h)
    have r2 := fun i v h => hk.cell hg (hrb i v h)
    exact ⟨g, c, k1, n1, pp1, pl1, pc1, fa1, fp1, fl1, fc1, np1, nl1, nc1, vp1, vl1, vc1, k2, n2, pp2, pl2, pc2, fa2, fp2, fl2, fc2, np2, nl2, nc2, vp2, vl2, vc2, rfl, ⟨r 0 _ rfl, r 1 _ rfl, r 2 _ rfl, r 3 _ rfl, r 4 _ rfl, r 5 _ rfl, r 6 _ rfl, r2 0 _ rfl, r2 1 _ rfl, r2 2 _ rfl, r2 3 _ rfl, r2 4 _ rfl, r2 5 _ rfl, r2 6 _ rfl⟩, ha, hb⟩
/-- THE MODEL's PRINT OF A VALUE, and what is left. -/
theorem l7Print_any {S : Nat → Prop} {w0 W0 : World} : ∀ (t : STy) (v : Sv) (cs : List Value), VTy v t → MvIn S w0 W0 v cs → t.n ≤ 200 → ∀ w, SKept S (fun _ => True) W0 w → Calls Tryz.prog 9 #[.agg cs.toArray] w fun e w' => e = .returned (.string v.prt.txt) ∧ Below w.heap.size w w' := by
  intro t
  induction t with
  | bit =>
    intro v cs hv hu _ w _
    cases hv with
    | bit n hn => cases hu; rw [← bitS_prt hn]; exact l7Print_bit hn w
  | fn a b =>
    intro v cs hv hu _ w _
    cases hv with
    | clo x s t e env tenv he hs han hbw ht => cases hu; exact l7Print_fun w
  | pair a b iha ihb =>
    intro v cs hv hu hn w hk
    simp only [STy.n] at hn
    cases hv with
    | pair x y _ _ hx hy =>
      obtain ⟨g, c, k1, n1, pp1, pl1, pc1, fa1, fp1, fl1, fc1, np1, nl1, nc1, vp1, vl1, vc1, k2, n2, pp2, pl2, pc2, fa2, fp2, fl2, fc2, np2, nl2, nc2, vp2, vl2, vc2, rfl, hr, ha, hb⟩ := mv_pair2 hu hk
      have l1 := prt_len hx; have l2 := prt_len hy
      rw [prt_pair_txt]
      exact l7Print_pair (by rw [txt_size]; omega) (by rw [txt_size]; omega) hr (fun W hW => iha x _ hx ha (by omega) W (skept_below hk hW)) (fun W hW => ihb y _ hy hb (by omega) W (skept_below hk hW))
theorem l7Left_any {S : Nat → Prop} {w0 W0 : World} : ∀ (t : STy) (v : Sv) (cs : List Value) (L M : Nat), VTy v t → MvIn S w0 W0 v cs → L = M + v.prt.write.length → L ≤ 1000000 → ∀ w, SKept S (fun _ => True) W0 w → Calls Tryz.prog 8 #[.agg cs.toArray, .int .i64 (L : Int)] w fun e w' => e = .returned (.int .i64 (M : Int)) ∧ Below w.heap.size w w' := by
  intro t
  induction t with
  | bit =>
    intro v cs L M hv hu hL hL2 w _
    cases hv with
    | bit n hn => cases hu; exact l7Left_bit (by simpa [Sv.prt, Tree.write] using hL) hL2 w
  | fn a b =>
    intro v cs L M hv hu hL hL2 w _
    cases hv with
    | clo x s t e env tenv he hs han hbw ht => cases hu; exact l7Left_fun (by simpa [Sv.prt, Tree.write] using hL) hL2 w
  | pair a b iha ihb =>
    intro v cs L M hv hu hL hL2 w hk
    cases hv with
    | pair x y _ _ hx hy =>
      obtain ⟨g, c, k1, n1, pp1, pl1, pc1, fa1, fp1, fl1, fc1, np1, nl1, nc1, vp1, vl1, vc1, k2, n2, pp2, pl2, pc2, fa2, fp2, fl2, fc2, np2, nl2, nc2, vp2, vl2, vc2, rfl, hr, ha, hb⟩ := mv_pair2 hu hk
      have hw : (Sv.pair x y).prt.write.length = 8 + x.prt.write.length + y.prt.write.length := by simp [Sv.prt, Tree.write, Tree.writes]; omega
      rw [hw] at hL
      exact l7Left_pair (K := M + y.prt.write.length + x.prt.write.length) (M := M + y.prt.write.length) (by omega) hL2 hr (fun W hW => iha x _ _ _ hx ha rfl (by omega) W (skept_below hk hW)) (fun W hW => ihb y _ _ _ hy hb rfl (by omega) W (skept_below hk hW))
end Go.Proofs.YtmjhfekcbagibaaGreatDoor
