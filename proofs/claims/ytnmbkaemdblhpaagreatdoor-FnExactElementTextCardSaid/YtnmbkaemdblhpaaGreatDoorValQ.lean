/- The program's meaning of an element of a pair. -/
import Derived.Test.YtnmbkaemdblhpaaGreatDoorValP
import Derived.Test.YtnmbkaemdblhpaaGreatDoorMeanW
import Derived.StillTailTactics
namespace Go.Proofs.YtnmbkaemdblhpaaGreatDoor
open Go.RowKit Go.Maps

theorem wrap_small (m : Nat) (h : m ≤ 5000) : IntKind.i64.wrap (m : Int) = m := IntWalk.i64_in _ (by omega)
theorem model_cell {w : World} {mb : Nat} {cs : Array Value} {mt : TypeId} {fr : Nat × Nat} {v : Value} (hm : w.heap[mb]? = some (.cells cs mt fr)) (hcs : cs[2]? = some v) (W : World) (h : W.heap[mb]? = w.heap[mb]?) : W.cell? ⟨mb, 2, none⟩ = some v := by
  rw [hm] at h
  simp [World.cell?, h, hcs]
set_option maxRecDepth 100000 in
set_option maxHeartbeats 2000000 in
theorem meaningOf_pair (x y : Ty) (k yn mb b n : Nat) (D : DataW Unit) (A B : ByteArray) (cs : Array Value) (mt : TypeId) (fr : Nat × Nat) (w : World) (hm : w.heap[mb]? = some (.cells cs mt fr)) (hcs : cs[2]? = some (.map (some b)))
    (ho : w.ownsMap Tryz.prog 9 (plainElem Tryz.prog 3) b n D) (hg : Good D) (hk : k ≤ 5000) (hy : 1 ≤ yn) (hy2 : yn ≤ 5000) (hA : A.size ≤ 24000) (hB : B.size ≤ 24000) (hn : n + y.write.length + x.bud + y.bud ≤ 900000)
    (H : ∀ W n D, W.ownsMap Tryz.prog 9 (plainElem Tryz.prog 3) b n D → Good D → n + y.write.length ≤ 1000000 → Calls Tryz.prog 15 #[.map (some b), y.val] W (CPost b n y.write.length (yn : Int) W))
    (H1 : ∀ W n D, W.heap[mb]? = w.heap[mb]? → W.ownsMap Tryz.prog 9 (plainElem Tryz.prog 3) b n D → Good D → n + x.bud ≤ 900000 → Calls Tryz.prog 16 #[.pointer (some ⟨mb, 0, none⟩), x.val, .int .i64 ((k / yn : Nat) : Int)] W (VPost b n x.bud A W))
    (H2 : ∀ W n D, W.heap[mb]? = w.heap[mb]? → W.ownsMap Tryz.prog 9 (plainElem Tryz.prog 3) b n D → Good D → n + y.bud ≤ 900000 → Calls Tryz.prog 16 #[.pointer (some ⟨mb, 0, none⟩), y.val, .int .i64 ((k % yn : Nat) : Int)] W (VPost b n y.bud B W)) :
    Calls Tryz.prog 16 #[.pointer (some ⟨mb, 0, none⟩), (Ty.pair x y).val, .int .i64 (k : Int)] w (VPost b n (y.write.length + x.bud + y.bud) ((({ data := #[40, 112, 97, 105, 114, 32] } : ByteArray) ++ A ++ ({ data := #[32] } : ByteArray)) ++ B ++ ({ data := #[41] } : ByteArray)) w) := by
  have q1 := wrap_quot k yn hk
  have q2 := wrap_quot_e k yn hk
  have q3 := wrap64_quot k yn hk
  have q4 := quot_t k yn
  have q5 := rest_t k yn
  have q6 := rest_e k yn
  have hq8 := Nat.div_le_self k yn
  obtain ⟨kq, hkq⟩ : ∃ kq, k / yn = kq := ⟨_, rfl⟩
  obtain ⟨kr, hkr⟩ : ∃ kr, k % yn = kr := ⟨_, rfl⟩
  rw [hkq] at q1 q2 q3 q4 H1 hq8
  rw [hkr] at q5 q6 H2
  have q7 : IntKind.i64.wrap (kq : Int) = kq := wrap_small kq (Nat.le_trans hq8 hk)
  have hy0 : (yn : Int) ≠ 0 := by omega
  have hy1 : yn ≠ 0 := by omega
  have hy3 : ((yn : Int) == 0) = false := by simp; omega
  have hlt := ho.lt
  have hne : some mb ≠ some b := map_ne ho hm
  have hml := lt_of_block hm
  have HC := hid H
  have HC1 := hid H1
  have HC2 := hid H2
  have HO := hid ho
  have HG := hid hg
  have HN := hid hn
  obtain ⟨nx, vx, hx⟩ := x.val_iface
  obtain ⟨ny, vy, hy⟩ := y.val_iface
  simp only [Ty.val]
  rw [hx] at HC1
  rw [hy] at HC HC2
  rw [hx, hy]
  have a1 := as_pair_pair (.agg #[.iface nx vx, .iface ny vy])
  have KB := hid (fun W (h : ((((w.alloc (.cells #[.pointer (some ⟨mb, 0, none⟩)] 71)).alloc (.cells #[.int .i64 (k : Int)] 3)).alloc (.cells #[.string ({ data := #[] } : ByteArray), .int .i64 0, .slice none 0 0, .nilFunc] 54)).alloc (.cells #[.iface nx vx, .iface ny vy] 73)).grownBy W (some b)) =>
    (show (W.cell? ⟨w.heap.size, 0, none⟩ = some (.pointer (some ⟨mb, 0, none⟩)) ∧ W.cell? ⟨w.heap.size + 1, 0, none⟩ = some (.int .i64 (k : Int)) ∧ W.cell? ⟨w.heap.size + 1 + 1 + 1, 0, none⟩ = some (.iface nx vx) ∧ W.cell? ⟨w.heap.size + 1 + 1 + 1, 1, none⟩ = some (.iface ny vy) ∧ W.cell? ⟨mb, 2, none⟩ = some (.map (some b))) ∧
      (W.heap[w.heap.size]? = some (.cells #[.pointer (some ⟨mb, 0, none⟩)] 71 (0, 0)) ∧ W.heap[w.heap.size + 1]? = some (.cells #[.int .i64 (k : Int)] 3 (0, 0)) ∧ W.heap[w.heap.size + 1 + 1]? = some (.cells #[.string ({ data := #[] } : ByteArray), .int .i64 0, .slice none 0 0, .nilFunc] 54 (0, 0)) ∧ W.heap[w.heap.size + 1 + 1 + 1]? = some (.cells #[.iface nx vx, .iface ny vy] 73 (0, 0))) ∧ w.grownBy W (some b) ∧ W.heap[mb]? = w.heap[mb]? from by
      obtain ⟨f1, f2, f3, f4, f5⟩ := four_boxes w _ _ _ _ hlt h
      have f6 := f5.block mb hml hne
      exact ⟨⟨cell_of f1 rfl, cell_of f2 rfl, cell_of f4 rfl, cell_of f4 rfl, model_cell hm hcs W f6⟩, ⟨f1, f2, f3, f4⟩, f5, f6⟩))
  have HPM := hid (fun za zb pa pb na ca nb cb W => pairMeaning_any A B za zb pa pb na ca nb cb hA hB W)
  have hnf := store_nilF
  have HL := hid hlt
  clear H H1 H2 hm ho hg hn hkq hkr hq8 hx hy hcs hlt hne hml
  go_enter Tryz.func16, Tryz.ntmps16
  go_wp2_with fail
  obtain ⟨W0, hW0⟩ : ∃ W0, (((w.alloc (.cells #[.pointer (some ⟨mb, 0, none⟩)] 71)).alloc (.cells #[.int .i64 (k : Int)] 3)).alloc (.cells #[.string ({ data := #[] } : ByteArray), .int .i64 0, .slice none 0 0, .nilFunc] 54)).alloc (.cells #[.iface nx vx, .iface ny vy] 73) = W0 := ⟨_, rfl⟩
  have hBW : Below w.heap.size w W0 := by rw [← hW0]; exact ((((Below.refl w.heap.size w).alloc (Nat.le_refl _) _).alloc (by simp) _).alloc (by simp; omega) _).alloc (by simp; omega) _
  rw [hW0] at KB
  rw [hW0]
  have d0 := KB.out W0 (grown_any (Below.refl _ _) _)
  obtain ⟨⟨d1, d2, d3, d4, d5⟩, -, -, -⟩ := d0
  go_still_tail 6, (by kernel_rfl)
  change wpList _ _ _ _ _ (World.drew _)
  generalize hW2 : World.drew W0 = W2
  have hg2 : W0.grownBy W2 (some b) := by rw [← hW2]; exact grown_any ((Below.refl _ W0).drew) _
  have HG2 := hid hg2
  have HO2 := hid (HO.out.kept (row := none) (grown_any (show Below w.heap.size w W2 from by rw [← hW2]; exact hBW.drew) _) (by simp))
  clear hg2 hBW d1 d2 d3 d4 d5
  go_wp2_with (go_at_call 15; refine (HC.out W2 n D HO2.out HG.out (by have := HN.out; omega)).mono ?_; rintro e w1 ⟨rfl, hg1, n1, D1, hn1, ho1, hgd1⟩; have HN1 := hid hn1; have HO1 := hid ho1; have HGD1 := hid hgd1; have hg01 := HG2.out.trans hg1; obtain ⟨⟨d1, d2, d3, d4, d5⟩, -, -, hm1⟩ := KB.out w1 hg01; have HG1 := hid hg01; have HM1 := hid hm1; clear hn1 ho1 hgd1 hg1 hg01 hm1)
  go_region_held3 (fun w' => w'.cell? ⟨w.heap.size, 0, none⟩ = some (.pointer (some ⟨mb, 0, none⟩)) ∧ w'.cell? ⟨w.heap.size + 1, 0, none⟩ = some (.int .i64 (k : Int)) ∧ w'.cell? ⟨w.heap.size + 1 + 1 + 1, 0, none⟩ = some (.iface nx vx) ∧ w'.cell? ⟨w.heap.size + 1 + 1 + 1, 1, none⟩ = some (.iface ny vy))
    (first | exact ⟨d1, d2, d3, d4⟩ | exact ⟨e51, e52, e53, e54⟩ | exact ⟨e41, e42, e43, e44⟩ | exact ⟨e31, e32, e33, e34⟩ | exact ⟨e21, e22, e23, e24⟩)
    (first
      | (have _ := HM3; go_at_call 27; (refine (HPM.out _ _ _ _ _ _ _ _ _).mono ?_; rintro e w4 ⟨⟨g, rfl⟩, hb4⟩; obtain ⟨f1, f2, f3, f4⟩ := HF3.out; have l1 := lt_of_block f1; have l2 := lt_of_block f2; have l3 := lt_of_block f3; have l4 := lt_of_block f4; have k1 := block_below f1 hb4 l1; have k2 := block_below f2 hb4 l2; have k3 := block_below f3 hb4 l3; have k4 := block_below f4 hb4 l4; have e41 := cell_of (i := 0) k1 rfl; have e42 := cell_of (i := 0) k2 rfl; have e43 := cell_of (i := 0) k4 rfl; have e44 := cell_of (i := 1) k4 rfl; have hx := four_all k3 (.string (((({ data := #[40, 112, 97, 105, 114, 32] } : ByteArray) ++ A) ++ ({ data := #[32] } : ByteArray)) ++ B ++ ({ data := #[41] } : ByteArray))) (.int .i64 0) (.slice (some ⟨g, 0, none⟩) 2 2) .nilFunc; obtain ⟨⟨x1, x2⟩, ⟨x3, x4⟩, ⟨x5, x6⟩, ⟨x7, x8⟩, hx9⟩ := hx; have hgf := grown_four w4 (w.heap.size + 1 + 1) (.string (((({ data := #[40, 112, 97, 105, 114, 32] } : ByteArray) ++ A) ++ ({ data := #[32] } : ByteArray)) ++ B ++ ({ data := #[41] } : ByteArray))) (.int .i64 0) (.slice (some ⟨g, 0, none⟩) 2 2) .nilFunc; have e51 := cell_of (i := 0) (block_grown k1 hgf (by simp; omega)) rfl; have e52 := cell_of (i := 0) (block_grown k2 hgf (by simp)) rfl; have e53 := cell_of (i := 0) (block_grown k4 hgf (by simp)) rfl; have e54 := cell_of (i := 1) (block_grown k4 hgf (by simp)) rfl; have HX := hid hx9; have HB4 := hid hb4; have HGF := hid hgf; clear hx9 hb4 hgf f1 f2 f3 f4 l1 l2 l3 l4 k1 k2 k3 k4))
      | (have _ := HM2; go_at_call 16; (refine (HC2.out _ n2 D2 HM2.out HO22.out HGD2.out (by have := HN.out; have := HN1.out; have := HN2.out; omega)).mono ?_; rintro e w3 ⟨⟨z2, p2, m2, c2, rfl⟩, hg3, n3, D3, hn3, ho3, hgd3⟩; have hg03 := HG02.out.trans hg3; obtain ⟨⟨e31, e32, e33, e34, e35⟩, hf3, hw3, hm3⟩ := KB.out w3 hg03; have HN3 := hid hn3; have HO3 := hid ho3; have HGD3 := hid hgd3; have HM3 := hid hm3; have HF3 := hid hf3; have HW3 := hid hw3; clear hn3 ho3 hgd3 hm3 hf3 hw3 hg3 hg03))
      | (go_at_call 16; (refine (HC1.out w1.drew n1 D1 HM1.out HO1.out.drew HGD1.out (by have := HN.out; have := HN1.out; omega)).mono ?_; rintro e w2 ⟨⟨z1, p1, m1, c1, rfl⟩, hg2, n2, D2, hn2, ho2, hgd2⟩; have hg02 := (HG1.out.trans (grown_any ((Below.refl _ w1).drew) _)).trans hg2; obtain ⟨⟨e21, e22, e23, e24, e25⟩, -, -, hm2⟩ := KB.out w2 hg02; have HN2 := hid hn2; have HO22 := hid ho2; have HGD2 := hid hgd2; have HM2 := hid hm2; have HG02 := hid hg02; clear hn2 ho2 hgd2 hm2 hg2 hg02)))
  go_wp2_with fail
  have hx := cells_of_four HX.out
  refine bodyPost_ret (v := .agg #[.string (((({ data := #[40, 112, 97, 105, 114, 32] } : ByteArray) ++ A) ++ ({ data := #[32] } : ByteArray)) ++ B ++ ({ data := #[41] } : ByteArray)), .int .i64 0, .slice (some ⟨g, 0, none⟩) 2 2, .nilFunc]) (by simp [results, Tryz.results16, go_sem, hx.1, hx.2.1, hx.2.2.1, hx.2.2.2.1]) rfl ?_
  have hgr := (HW3.out.trans (grown_any HB4.out _)).andThen HGF.out (fun j hj => by simp at hj; omega)
  have how := (HO3.out.kept (row := none) (grown_any HB4.out _) (by simp)).kept HGF.out (by have := HL.out; simp; omega)
  refine ⟨⟨_, _, _, _, rfl⟩, hgr, n3, D3, ?_, how, HGD3.out⟩
  have := HN1.out; have := HN2.out; have := HN3.out; omega
end Go.Proofs.YtnmbkaemdblhpaaGreatDoor
