/- Merged: DfA, DfB, DfC, DfT, DfR, MkM, MkN, MkB, MkC, MkD, MkE, MkP, MkQ, MkH, MkI, MkJ, MkL, MkR. -/
import Derived.Deep.RegionHeld3
import Derived.Test.YtagifgekhboinaaGreatDoorDA22
import Derived.Test.YtagifgekhboinaaGreatDoorDA17
import Derived.Test.YtagifgekhboinaaGreatDoorDA9
import Derived.Test.YtagifgekhboinaaGreatDoorDA13
namespace Go.Proofs.YtagifgekhboinaaGreatDoor
open Go.RowKit Go.Maps

set_option maxRecDepth 100000 in
set_option maxHeartbeats 4000000 in
theorem define_bit (k b nb n c : Nat) (D : DataW Unit) (w : World) (hd : DIn b nb n c D w) (hk : k < 2) :
    Calls Tryz.prog 35 #[.agg #[.map (some b), .func (.func 81) #[] #[.pointer (some ⟨nb, 0, none⟩)]], Ty.bit.val, .int .i64 (k : Int)] w (DPost b nb n 0 c (bitT k).txt w) := by
  have HS := hid (fun W => itoa_bit k hk W)
  have HB := hid (show (bitT k).txt = bitS k from atom_txt _)
  simp only [Ty.val]
  have a1 := as_bit_pair (.agg #[])
  have a2 := as_bit_choice (.agg #[])
  have a3 := as_bit_thunk (.agg #[])
  have a4 := as_bit_ret (.agg #[])
  have a5 := as_bit_fn (.agg #[])
  have HD := hid hd
  clear hd
  go_enter Tryz.func35, Tryz.ntmps35
  go_wp2_with (go_at_call 66; refine (HS.out _).mono ?_; rintro e w1 ⟨rfl, rfl⟩)
  go_ret
  have hbb := (Below.refl w.heap.size w).alloc (Nat.le_refl _) (.cells #[.map (some b), .func (.func 81) #[] #[.pointer (some ⟨nb, 0, none⟩)]] 74)
  exact ⟨ret_str HB.out.symm, Trn.below hbb, n, D, by omega, HD.out.below hbb⟩
end Go.Proofs.YtagifgekhboinaaGreatDoor

namespace Go.Proofs.YtagifgekhboinaaGreatDoor
open Go.RowKit Go.Maps

theorem wrap_pair (m : Nat) (h : m ≤ 5000) : IntKind.i64.wrap (m : Int) = m := IntWalk.i64_in _ (by omega)
set_option maxRecDepth 100000 in
set_option maxHeartbeats 4000000 in
theorem define_pair (x y : Ty) (k yn b nb n c c1 c2 : Nat) (D : DataW Unit) (A B : Tree) (w : World) (hd : DIn b nb n c D w) (hk : k ≤ 5000) (hy : 1 ≤ yn) (hy2 : yn ≤ 5000) (hA : A.write.length ≤ 5000) (hB : B.write.length ≤ 5000) (hn : n + y.write.length + x.dbud + y.dbud ≤ 900000)
    (H : ∀ W n c D, DIn b nb n c D W → n + y.write.length ≤ 1000000 → Calls Tryz.prog 33 #[.map (some b), y.val] W fun e W' => e = .returned (.int .i64 (yn : Int)) ∧ Trn b nb W W' ∧ ∃ n' D', n' ≤ n + y.write.length ∧ DIn b nb n' c D' W')
    (H1 : ∀ W n D, DIn b nb n c D W → n + x.dbud ≤ 900000 → Calls Tryz.prog 35 #[.agg #[.map (some b), .func (.func 81) #[] #[.pointer (some ⟨nb, 0, none⟩)]], x.val, .int .i64 ((k / yn : Nat) : Int)] W (DPost b nb n x.dbud c1 A.txt W))
    (H2 : ∀ W n D, DIn b nb n c1 D W → n + y.dbud ≤ 900000 → Calls Tryz.prog 35 #[.agg #[.map (some b), .func (.func 81) #[] #[.pointer (some ⟨nb, 0, none⟩)]], y.val, .int .i64 ((k % yn : Nat) : Int)] W (DPost b nb n y.dbud c2 B.txt W)) :
    Calls Tryz.prog 35 #[.agg #[.map (some b), .func (.func 81) #[] #[.pointer (some ⟨nb, 0, none⟩)]], (Ty.pair x y).val, .int .i64 (k : Int)] w (DPost b nb n (y.write.length + x.dbud + y.dbud) c2 (Tree.node [.atom wPair, A, B]).txt w) := by
  have q1 := wrap_quot k yn hk
  have q2 := wrap_quot_e k yn hk
  have q3 := wrap64_quot k yn hk
  have q4 := quot_t k yn
  have q5 := rest_t k yn
  have q6 := rest_e k yn
  have hq8 := Nat.div_le_self k yn
  obtain ⟨kq, hkq⟩ : ∃ kq, k / yn = kq := ⟨_, rfl⟩
  obtain ⟨kr, hkr⟩ : ∃ kr, k % yn = kr := ⟨_, rfl⟩
  rw [hkq] at q1 q2 q3 q4 H1 hq8
  rw [hkr] at q5 q6 H2
  have q7 : IntKind.i64.wrap (kq : Int) = kq := wrap_pair kq (Nat.le_trans hq8 hk)
  have hy0 : (yn : Int) ≠ 0 := by omega
  have hy1 : yn ≠ 0 := by omega
  have hy3 : ((yn : Int) == 0) = false := by simp; omega
  obtain ⟨hlb, hln⟩ := hd.lt
  have HC := hid H
  have HC1 := hid H1
  have HC2 := hid H2
  have HD := hid hd
  have HN := hid hn
  obtain ⟨nx, vx, hx⟩ := x.val_iface
  obtain ⟨ny, vy, hy⟩ := y.val_iface
  simp only [Ty.val]
  rw [hx] at HC1
  rw [hy] at HC HC2
  rw [hx, hy]
  have a1 := as_pair_pair (.agg #[.iface nx vx, .iface ny vy])
  have hw0 : (Tree.atom wPair).txt = ({ data := #[112, 97, 105, 114] } : ByteArray) := atom_txt _
  have hl : (Tree.node [.atom wPair, A, B]).write.length ≤ 20000 := by simp [Tree.write, Tree.writes, wPair]; omega
  have HROW := hid (fun W => row_cells (heap_new W (.cells #[.string ({ data := #[112, 97, 105, 114] } : ByteArray), .string A.txt, .string B.txt] 9) W.heap.size rfl) (ps := [.atom wPair, A, B]) (by simp [hw0]))
  have HL := hid hl
  have KB := hid (fun W (h : Trn b nb ((w.alloc (.cells #[.map (some b), .func (.func 81) #[] #[.pointer (some ⟨nb, 0, none⟩)]] 74)).alloc (.cells #[.iface nx vx, .iface ny vy] 104)) W) =>
    (show (W.cell? ⟨w.heap.size, 0, none⟩ = some (.map (some b)) ∧ W.cell? ⟨w.heap.size, 1, none⟩ = some (.func (.func 81) #[] #[.pointer (some ⟨nb, 0, none⟩)]) ∧ W.cell? ⟨w.heap.size + 1, 0, none⟩ = some (.iface nx vx) ∧ W.cell? ⟨w.heap.size + 1, 1, none⟩ = some (.iface ny vy)) ∧ Trn b nb w W from by
      obtain ⟨f1, f2, f3⟩ := Trn.two w _ _ hlb hln h
      exact ⟨⟨Trn.cell f1 rfl, Trn.cell f1 rfl, Trn.cell f2 rfl, Trn.cell f2 rfl⟩, f3⟩))
  have hbw : Below w.heap.size w ((w.alloc (.cells #[.map (some b), .func (.func 81) #[] #[.pointer (some ⟨nb, 0, none⟩)]] 74)).alloc (.cells #[.iface nx vx, .iface ny vy] 104)) := ((Below.refl _ _).alloc (Nat.le_refl _) _).alloc (by simp) _
  have HD0 := hid (hd.below hbw)
  clear H H1 H2 hd hn hkq hkr hq8 hx hy hlb hln hl hw0 hbw
  go_enter Tryz.func35, Tryz.ntmps35
  go_wp2_with (go_at_call 33; refine (HC.out _ n c D HD0.out (by have := HN.out; omega)).mono ?_; rintro e w1 ⟨rfl, ht1, n1, D1, hn1, hd1⟩; obtain ⟨⟨d1, d2, d3, d4⟩, htw1⟩ := KB.out w1 ht1; have HT1 := hid ht1; have HN1 := hid hn1; have HD1 := hid hd1; clear ht1 hn1 hd1 htw1)
  go_region_held3 (fun w' => w'.cell? ⟨w.heap.size, 0, none⟩ = some (.map (some b)) ∧ w'.cell? ⟨w.heap.size, 1, none⟩ = some (.func (.func 81) #[] #[.pointer (some ⟨nb, 0, none⟩)]) ∧ w'.cell? ⟨w.heap.size + 1, 0, none⟩ = some (.iface nx vx) ∧ w'.cell? ⟨w.heap.size + 1, 1, none⟩ = some (.iface ny vy))
    (first | exact ⟨d1, d2, d3, d4⟩ | exact ⟨e51, e52, e53, e54⟩ | exact ⟨e41, e42, e43, e44⟩ | exact ⟨e31, e32, e33, e34⟩ | exact ⟨e21, e22, e23, e24⟩)
    (first
      | (have _ := HD3; go_at_call 63; refine (list_any [.atom wPair, A, B] 3 _ 3 rfl (by decide) HL.out (by decide) _ (by simp) (HROW.out _)).mono ?_; rintro e w5 ⟨rfl, hb5⟩; have ht5 := HT4.out.trans (Trn.below hb5); obtain ⟨⟨e51, e52, e53, e54⟩, hw5⟩ := KB.out w5 ht5; have HD5 := hid (HD4.out.below hb5); have HW5 := hid hw5; clear hb5 ht5 hw5)
      | (have _ := HD2; go_at_call 35; refine (HC2.out _ n2 D2 HD2.out (by have := HN.out; have := HN1.out; have := HN2.out; omega)).mono ?_; rintro e w3 ⟨rfl, ht3, n3, D3, hn3, hd3⟩; have ht03 := HT2.out.trans ht3; obtain ⟨⟨e31, e32, e33, e34⟩, -⟩ := KB.out w3 ht03; have ht04 := ht03.trans (Trn.alloc w3 (.cells #[.string ({ data := #[112, 97, 105, 114] } : ByteArray), .string A.txt, .string B.txt] 9)); obtain ⟨⟨e41, e42, e43, e44⟩, -⟩ := KB.out _ ht04; have HT4 := hid ht04; have HD4 := hid (hd3.below ((Below.refl _ _).alloc (Nat.le_refl _) (.cells #[.string ({ data := #[112, 97, 105, 114] } : ByteArray), .string A.txt, .string B.txt] 9))); have HN3 := hid hn3; have HD3 := hid hd3; clear ht3 hn3 hd3 ht03 ht04)
      | (go_at_call 35; refine (HC1.out w1.drew n1 D1 (HD1.out.below ((Below.refl _ _).drew)) (by have := HN.out; have := HN1.out; omega)).mono ?_; rintro e w2 ⟨rfl, ht2, n2, D2, hn2, hd2⟩; have ht02 := (HT1.out.trans (Trn.below ((Below.refl _ w1).drew))).trans ht2; obtain ⟨⟨e21, e22, e23, e24⟩, -⟩ := KB.out w2 ht02; have HT2 := hid ht02; have HN2 := hid hn2; have HD2 := hid hd2; clear ht2 hn2 hd2 ht02))
  go_wp2_with fail
  go_ret
  refine ⟨rfl, HW5.out, n3, D3, ?_, HD5.out⟩
  have := HN1.out; have := HN2.out; have := HN3.out; omega
end Go.Proofs.YtagifgekhboinaaGreatDoor

namespace Go.Proofs.YtagifgekhboinaaGreatDoor
open Go.RowKit Go.Maps

theorem wrap_choice (m : Nat) (h : m ≤ 5000) : IntKind.i64.wrap (m : Int) = m := IntWalk.i64_in _ (by omega)
set_option maxRecDepth 100000 in
set_option maxHeartbeats 4000000 in
theorem define_choice (x y : Ty) (k yn b nb n c c1 c2 : Nat) (D : DataW Unit) (A B : Tree) (w : World) (hd : DIn b nb n c D w) (hk : k ≤ 5000) (hy : 1 ≤ yn) (hy2 : yn ≤ 5000) (hA : A.write.length ≤ 5000) (hB : B.write.length ≤ 5000) (hn : n + y.write.length + x.dbud + y.dbud ≤ 900000)
    (H : ∀ W n c D, DIn b nb n c D W → n + y.write.length ≤ 1000000 → Calls Tryz.prog 33 #[.map (some b), y.val] W fun e W' => e = .returned (.int .i64 (yn : Int)) ∧ Trn b nb W W' ∧ ∃ n' D', n' ≤ n + y.write.length ∧ DIn b nb n' c D' W')
    (H1 : ∀ W n D, DIn b nb n c D W → n + x.dbud ≤ 900000 → Calls Tryz.prog 35 #[.agg #[.map (some b), .func (.func 81) #[] #[.pointer (some ⟨nb, 0, none⟩)]], x.val, .int .i64 ((k / yn : Nat) : Int)] W (DPost b nb n x.dbud c1 A.txt W))
    (H2 : ∀ W n D, DIn b nb n c1 D W → n + y.dbud ≤ 900000 → Calls Tryz.prog 35 #[.agg #[.map (some b), .func (.func 81) #[] #[.pointer (some ⟨nb, 0, none⟩)]], y.val, .int .i64 ((k % yn : Nat) : Int)] W (DPost b nb n y.dbud c2 B.txt W)) :
    Calls Tryz.prog 35 #[.agg #[.map (some b), .func (.func 81) #[] #[.pointer (some ⟨nb, 0, none⟩)]], (Ty.choice x y).val, .int .i64 (k : Int)] w (DPost b nb n (y.write.length + x.dbud + y.dbud) c2 (Tree.node [.atom wBoth, A, B]).txt w) := by
  have q1 := wrap_quot k yn hk
  have q2 := wrap_quot_e k yn hk
  have q3 := wrap64_quot k yn hk
  have q4 := quot_t k yn
  have q5 := rest_t k yn
  have q6 := rest_e k yn
  have hq8 := Nat.div_le_self k yn
  obtain ⟨kq, hkq⟩ : ∃ kq, k / yn = kq := ⟨_, rfl⟩
  obtain ⟨kr, hkr⟩ : ∃ kr, k % yn = kr := ⟨_, rfl⟩
  rw [hkq] at q1 q2 q3 q4 H1 hq8
  rw [hkr] at q5 q6 H2
  have q7 : IntKind.i64.wrap (kq : Int) = kq := wrap_choice kq (Nat.le_trans hq8 hk)
  have hy0 : (yn : Int) ≠ 0 := by omega
  have hy1 : yn ≠ 0 := by omega
  have hy3 : ((yn : Int) == 0) = false := by simp; omega
  obtain ⟨hlb, hln⟩ := hd.lt
  have HC := hid H
  have HC1 := hid H1
  have HC2 := hid H2
  have HD := hid hd
  have HN := hid hn
  obtain ⟨nx, vx, hx⟩ := x.val_iface
  obtain ⟨ny, vy, hy⟩ := y.val_iface
  simp only [Ty.val]
  rw [hx] at HC1
  rw [hy] at HC HC2
  rw [hx, hy]
  have a1 := as_choice_pair (.agg #[.iface nx vx, .iface ny vy])
  have a2 := as_choice_choice (.agg #[.iface nx vx, .iface ny vy])
  have hw0 : (Tree.atom wBoth).txt = ({ data := #[98, 111, 116, 104] } : ByteArray) := atom_txt _
  have hl : (Tree.node [.atom wBoth, A, B]).write.length ≤ 20000 := by simp [Tree.write, Tree.writes, wBoth]; omega
  have HROW := hid (fun W => row_cells (heap_new W (.cells #[.string ({ data := #[98, 111, 116, 104] } : ByteArray), .string A.txt, .string B.txt] 9) W.heap.size rfl) (ps := [.atom wBoth, A, B]) (by simp [hw0]))
  have HL := hid hl
  have KB := hid (fun W (h : Trn b nb ((w.alloc (.cells #[.map (some b), .func (.func 81) #[] #[.pointer (some ⟨nb, 0, none⟩)]] 74)).alloc (.cells #[.iface nx vx, .iface ny vy] 106)) W) =>
    (show (W.cell? ⟨w.heap.size, 0, none⟩ = some (.map (some b)) ∧ W.cell? ⟨w.heap.size, 1, none⟩ = some (.func (.func 81) #[] #[.pointer (some ⟨nb, 0, none⟩)]) ∧ W.cell? ⟨w.heap.size + 1, 0, none⟩ = some (.iface nx vx) ∧ W.cell? ⟨w.heap.size + 1, 1, none⟩ = some (.iface ny vy)) ∧ Trn b nb w W from by
      obtain ⟨f1, f2, f3⟩ := Trn.two w _ _ hlb hln h
      exact ⟨⟨Trn.cell f1 rfl, Trn.cell f1 rfl, Trn.cell f2 rfl, Trn.cell f2 rfl⟩, f3⟩))
  have hbw : Below w.heap.size w ((w.alloc (.cells #[.map (some b), .func (.func 81) #[] #[.pointer (some ⟨nb, 0, none⟩)]] 74)).alloc (.cells #[.iface nx vx, .iface ny vy] 106)) := ((Below.refl _ _).alloc (Nat.le_refl _) _).alloc (by simp) _
  have HD0 := hid (hd.below hbw)
  clear H H1 H2 hd hn hkq hkr hq8 hx hy hlb hln hl hw0 hbw
  go_enter Tryz.func35, Tryz.ntmps35
  go_wp2_with (go_at_call 33; refine (HC.out _ n c D HD0.out (by have := HN.out; omega)).mono ?_; rintro e w1 ⟨rfl, ht1, n1, D1, hn1, hd1⟩; obtain ⟨⟨d1, d2, d3, d4⟩, htw1⟩ := KB.out w1 ht1; have HT1 := hid ht1; have HN1 := hid hn1; have HD1 := hid hd1; clear ht1 hn1 hd1 htw1)
  go_region_held3 (fun w' => w'.cell? ⟨w.heap.size, 0, none⟩ = some (.map (some b)) ∧ w'.cell? ⟨w.heap.size, 1, none⟩ = some (.func (.func 81) #[] #[.pointer (some ⟨nb, 0, none⟩)]) ∧ w'.cell? ⟨w.heap.size + 1, 0, none⟩ = some (.iface nx vx) ∧ w'.cell? ⟨w.heap.size + 1, 1, none⟩ = some (.iface ny vy))
    (first | exact ⟨d1, d2, d3, d4⟩ | exact ⟨e51, e52, e53, e54⟩ | exact ⟨e41, e42, e43, e44⟩ | exact ⟨e31, e32, e33, e34⟩ | exact ⟨e21, e22, e23, e24⟩)
    (first
      | (have _ := HD3; go_at_call 63; refine (list_any [.atom wBoth, A, B] 3 _ 3 rfl (by decide) HL.out (by decide) _ (by simp) (HROW.out _)).mono ?_; rintro e w5 ⟨rfl, hb5⟩; have ht5 := HT4.out.trans (Trn.below hb5); obtain ⟨⟨e51, e52, e53, e54⟩, hw5⟩ := KB.out w5 ht5; have HD5 := hid (HD4.out.below hb5); have HW5 := hid hw5; clear hb5 ht5 hw5)
      | (have _ := HD2; go_at_call 35; refine (HC2.out _ n2 D2 HD2.out (by have := HN.out; have := HN1.out; have := HN2.out; omega)).mono ?_; rintro e w3 ⟨rfl, ht3, n3, D3, hn3, hd3⟩; have ht03 := HT2.out.trans ht3; obtain ⟨⟨e31, e32, e33, e34⟩, -⟩ := KB.out w3 ht03; have ht04 := ht03.trans (Trn.alloc w3 (.cells #[.string ({ data := #[98, 111, 116, 104] } : ByteArray), .string A.txt, .string B.txt] 9)); obtain ⟨⟨e41, e42, e43, e44⟩, -⟩ := KB.out _ ht04; have HT4 := hid ht04; have HD4 := hid (hd3.below ((Below.refl _ _).alloc (Nat.le_refl _) (.cells #[.string ({ data := #[98, 111, 116, 104] } : ByteArray), .string A.txt, .string B.txt] 9))); have HN3 := hid hn3; have HD3 := hid hd3; clear ht3 hn3 hd3 ht03 ht04)
      | (go_at_call 35; refine (HC1.out w1.drew n1 D1 (HD1.out.below ((Below.refl _ _).drew)) (by have := HN.out; have := HN1.out; omega)).mono ?_; rintro e w2 ⟨rfl, ht2, n2, D2, hn2, hd2⟩; have ht02 := (HT1.out.trans (Trn.below ((Below.refl _ w1).drew))).trans ht2; obtain ⟨⟨e21, e22, e23, e24⟩, -⟩ := KB.out w2 ht02; have HT2 := hid ht02; have HN2 := hid hn2; have HD2 := hid hd2; clear ht2 hn2 hd2 ht02))
  go_wp2_with fail
  go_ret
  refine ⟨rfl, HW5.out, n3, D3, ?_, HD5.out⟩
  have := HN1.out; have := HN2.out; have := HN3.out; omega
end Go.Proofs.YtagifgekhboinaaGreatDoor

namespace Go.Proofs.YtagifgekhboinaaGreatDoor
open Go.RowKit Go.Maps

set_option maxRecDepth 100000 in
set_option maxHeartbeats 4000000 in
theorem define_thunk (x : Ty) (k b nb n c c1 : Nat) (D : DataW Unit) (A : Tree) (w : World) (hd : DIn b nb n c D w) (hA : A.write.length ≤ 5000) (hn : n + x.dbud ≤ 900000)
    (H1 : ∀ W n D, DIn b nb n c D W → n + x.dbud ≤ 900000 → Calls Tryz.prog 35 #[.agg #[.map (some b), .func (.func 81) #[] #[.pointer (some ⟨nb, 0, none⟩)]], x.val, .int .i64 (k : Int)] W (DPost b nb n x.dbud c1 A.txt W)) :
    Calls Tryz.prog 35 #[.agg #[.map (some b), .func (.func 81) #[] #[.pointer (some ⟨nb, 0, none⟩)]], (Ty.thunk x).val, .int .i64 (k : Int)] w (DPost b nb n x.dbud c1 (Tree.node [.atom wThunk, A]).txt w) := by
  obtain ⟨hlb, hln⟩ := hd.lt
  have HC1 := hid H1
  have HN := hid hn
  obtain ⟨nx, vx, hx⟩ := x.val_iface
  simp only [Ty.val]
  rw [hx] at HC1
  rw [hx]
  have a1 := as_thunk_pair (.agg #[.iface nx vx])
  have a2 := as_thunk_choice (.agg #[.iface nx vx])
  have a3 := as_thunk_thunk (.agg #[.iface nx vx])
  have hw0 : (Tree.atom wThunk).txt = ({ data := #[116, 104, 117, 110, 107] } : ByteArray) := atom_txt _
  have hl : (Tree.node [.atom wThunk, A]).write.length ≤ 20000 := by simp [Tree.write, Tree.writes, wThunk]; omega
  have HROW := hid (fun W => row_cells (heap_new W (.cells #[.string ({ data := #[116, 104, 117, 110, 107] } : ByteArray), .string A.txt] 9) W.heap.size rfl) (ps := [.atom wThunk, A]) (by simp [hw0]))
  have HL := hid hl
  have HK := hid (fun W (h : Trn b nb ((w.alloc (.cells #[.map (some b), .func (.func 81) #[] #[.pointer (some ⟨nb, 0, none⟩)]] 74)).alloc (.cells #[.iface nx vx] 108)) W) => (Trn.two w _ _ hlb hln h).2.2)
  have HD0 := hid (hd.below (((Below.refl _ _).alloc (Nat.le_refl _) (.cells #[.map (some b), .func (.func 81) #[] #[.pointer (some ⟨nb, 0, none⟩)]] 74)).alloc (by simp) (.cells #[.iface nx vx] 108)))
  clear H1 hd hn hx hlb hln hl hw0
  go_enter Tryz.func35, Tryz.ntmps35
  go_wp2_with (first
    | (have _ := HT1; go_at_call 63; refine (list_any [.atom wThunk, A] 2 _ 2 rfl (by decide) HL.out (by decide) _ (by simp) (HROW.out _)).mono ?_; rintro e w2 ⟨rfl, hb2⟩)
    | (go_at_call 35; refine (HC1.out _ n D HD0.out HN.out).mono ?_; rintro e w1 ⟨rfl, ht1, n1, D1, hn1, hd1⟩; have HT1 := hid ht1; have HD1 := hid hd1; have HN1 := hid hn1; clear ht1 hd1 hn1))
  go_ret
  have hbb := ((Below.refl w1.heap.size w1).alloc (Nat.le_refl _) (.cells #[.string ({ data := #[116, 104, 117, 110, 107] } : ByteArray), .string A.txt] 9)).trans (hb2.mono (by simp))
  exact ⟨rfl, (HK.out _ HT1.out).trans (Trn.below hbb), n1, D1, HN1.out, HD1.out.below hbb⟩
end Go.Proofs.YtagifgekhboinaaGreatDoor

namespace Go.Proofs.YtagifgekhboinaaGreatDoor
open Go.RowKit Go.Maps

set_option maxRecDepth 100000 in
set_option maxHeartbeats 4000000 in
theorem define_ret (x : Ty) (k b nb n c c1 c2 : Nat) (D : DataW Unit) (A B : Tree) (w : World) (hd : DIn b nb n c D w) (hc : c < 99) (hA : A.write.length ≤ 5000) (hB : B.write.length ≤ 5000) (hn : n + (2 * x.write.length + 2 * x.dbud) ≤ 900000)
    (H1 : ∀ W n D, DIn b nb n (c + 1) D W → n + (x.write.length + x.dbud) ≤ 900000 → Calls Tryz.prog 64 #[.agg #[.map (some b), .func (.func 81) #[] #[.pointer (some ⟨nb, 0, none⟩)]], .agg #[x.val], .int .i64 (k : Int), .int .i64 1] W (DPost b nb n (x.write.length + x.dbud) c1 A.txt W))
    (H2 : ∀ W n D, DIn b nb n c1 D W → n + (x.write.length + x.dbud) ≤ 900000 → Calls Tryz.prog 64 #[.agg #[.map (some b), .func (.func 81) #[] #[.pointer (some ⟨nb, 0, none⟩)]], .agg #[x.val], .int .i64 (k : Int), .int .i64 0] W (DPost b nb n (x.write.length + x.dbud) c2 B.txt W)) :
    Calls Tryz.prog 35 #[.agg #[.map (some b), .func (.func 81) #[] #[.pointer (some ⟨nb, 0, none⟩)]], (Ty.ret x).val, .int .i64 (k : Int)] w (DPost b nb n (2 * x.write.length + 2 * x.dbud) c2 (Tree.node [.atom wGet, .atom (nmB c), .node [.atom wIf, .atom (nmB c), A, B]]).txt w) := by
  obtain ⟨hlb, hln⟩ := hd.lt
  have HC1 := hid H1
  have HC2 := hid H2
  have HN := hid hn
  have HCC := hid hc
  obtain ⟨nx, vx, hx⟩ := x.val_iface
  simp only [Ty.val]
  rw [hx] at HC1 HC2
  rw [hx]
  have a1 := as_ret_pair (.agg #[.iface nx vx])
  have a2 := as_ret_choice (.agg #[.iface nx vx])
  have a3 := as_ret_thunk (.agg #[.iface nx vx])
  have a4 := as_ret_ret (.agg #[.iface nx vx])
  have hw0 : (Tree.atom wIf).txt = ({ data := #[105, 102] } : ByteArray) := atom_txt _
  have hw1 : (Tree.atom wGet).txt = ({ data := #[103, 101, 116] } : ByteArray) := atom_txt _
  have hw2 : (Tree.atom (nmB c)).txt = nmB c := atom_txt _
  have hnl := nm_len c
  have hl0 : (Tree.node [.atom wIf, .atom (nmB c), A, B]).write.length ≤ 11000 := by simp only [Tree.write, Tree.writes, List.length_cons, List.length_append, List.length_nil, wIf]; omega
  have hl : (Tree.node [.atom wGet, .atom (nmB c), .node [.atom wIf, .atom (nmB c), A, B]]).write.length ≤ 20000 := by
    generalize Tree.node [.atom wIf, .atom (nmB c), A, B] = R at *
    simp only [Tree.write, Tree.writes, List.length_cons, List.length_append, List.length_nil, wGet]; omega
  have HROW := hid (fun W => row_cells (heap_new W (.cells #[.string ({ data := #[105, 102] } : ByteArray), .string (nmB c), .string A.txt, .string B.txt] 9) W.heap.size rfl) (ps := [.atom wIf, .atom (nmB c), A, B]) (by simp only [List.map_cons, List.map_nil, hw0, hw2]))
  have HROW2 := hid (fun W => row_cells (heap_new W (.cells #[.string ({ data := #[103, 101, 116] } : ByteArray), .string (nmB c), .string (Tree.node [.atom wIf, .atom (nmB c), A, B]).txt] 9) W.heap.size rfl) (ps := [.atom wGet, .atom (nmB c), .node [.atom wIf, .atom (nmB c), A, B]]) (by simp only [List.map_cons, List.map_nil, hw1, hw2]))
  have HL0 := hid (show (Tree.node [.atom wIf, .atom (nmB c), A, B]).write.length ≤ 20000 by omega)
  have HL := hid hl
  have KB := hid (fun W (h : Trn b nb ((w.alloc (.cells #[.map (some b), .func (.func 81) #[] #[.pointer (some ⟨nb, 0, none⟩)]] 74)).alloc (.cells #[.iface nx vx] 110)) W) =>
    (show (W.cell? ⟨w.heap.size, 0, none⟩ = some (.map (some b)) ∧ W.cell? ⟨w.heap.size, 1, none⟩ = some (.func (.func 81) #[] #[.pointer (some ⟨nb, 0, none⟩)]) ∧ W.cell? ⟨w.heap.size + 1, 0, none⟩ = some (.iface nx vx)) ∧ Trn b nb w W from by
      obtain ⟨f1, f2, f3⟩ := Trn.two w _ _ hlb hln h
      exact ⟨⟨Trn.cell f1 rfl, Trn.cell f1 rfl, Trn.cell f2 rfl⟩, f3⟩))
  have HD0 := hid (hd.below (((Below.refl _ _).alloc (Nat.le_refl _) (.cells #[.map (some b), .func (.func 81) #[] #[.pointer (some ⟨nb, 0, none⟩)]] 74)).alloc (by simp) (.cells #[.iface nx vx] 110)))
  clear H1 H2 hd hn hx hlb hln hl hl0 hw0 hw1 hw2 hnl hc
  go_enter Tryz.func35, Tryz.ntmps35
  go_wp2_with (go_at_call 81; refine (newName_any b nb n c D HCC.out _ HD0.out).mono ?_; rintro e w1 ⟨rfl, ht1, n1, D1, hn1, hd1⟩; obtain ⟨⟨d1, d2, d3⟩, -⟩ := KB.out w1 ht1; have HT1 := hid ht1; have HD1 := hid hd1; have HN1 := hid hn1; clear ht1 hd1 hn1)
  go_region_held3 (fun w' => w'.cell? ⟨w.heap.size, 0, none⟩ = some (.map (some b)) ∧ w'.cell? ⟨w.heap.size, 1, none⟩ = some (.func (.func 81) #[] #[.pointer (some ⟨nb, 0, none⟩)]) ∧ w'.cell? ⟨w.heap.size + 1, 0, none⟩ = some (.iface nx vx))
    (first | exact ⟨d1, d2, d3⟩ | exact ⟨e71, e72, e73⟩ | exact ⟨e61, e62, e63⟩ | exact ⟨e51, e52, e53⟩ | exact ⟨e41, e42, e43⟩ | exact ⟨e31, e32, e33⟩ | exact ⟨e21, e22, e23⟩)
    (first
      | (have _ := HD5; go_at_call 63; refine (list_any [.atom wGet, .atom (nmB c), .node [.atom wIf, .atom (nmB c), A, B]] 3 _ 3 rfl (by decide) HL.out (by decide) _ (by simp) (HROW2.out _)).mono ?_; rintro e w7 ⟨rfl, hb7⟩; have ht7 := HT6.out.trans (Trn.below hb7); obtain ⟨⟨e71, e72, e73⟩, hw7⟩ := KB.out w7 ht7; have HD7 := hid (HD6.out.below hb7); have HW7 := hid hw7; clear hb7 ht7 hw7)
      | (have _ := HD3; go_at_call 63; refine (list_any [.atom wIf, .atom (nmB c), A, B] 4 _ 4 rfl (by decide) HL0.out (by decide) _ (by simp) (HROW.out _)).mono ?_; rintro e w5 ⟨rfl, hb5⟩; have ht5 := HT4.out.trans (Trn.below hb5); obtain ⟨⟨e51, e52, e53⟩, -⟩ := KB.out w5 ht5; have hdd := HD4.out.below hb5; have HD5 := hid hdd; have HT6 := hid (ht5.trans (Trn.alloc w5 (.cells #[.string ({ data := #[103, 101, 116] } : ByteArray), .string (nmB c), .string (Tree.node [.atom wIf, .atom (nmB c), A, B]).txt] 9))); obtain ⟨⟨e61, e62, e63⟩, -⟩ := KB.out _ HT6.out; have HD6 := hid (hdd.below ((Below.refl _ _).alloc (Nat.le_refl _) (.cells #[.string ({ data := #[103, 101, 116] } : ByteArray), .string (nmB c), .string (Tree.node [.atom wIf, .atom (nmB c), A, B]).txt] 9))); clear hb5 ht5 hdd)
      | (have _ := HD2; go_at_call 64; refine (HC2.out _ n2 D2 HD2.out (by have := HN.out; have := HN1.out; have := HN2.out; omega)).mono ?_; rintro e w3 ⟨rfl, ht3, n3, D3, hn3, hd3⟩; have ht03 := HT2.out.trans ht3; obtain ⟨⟨e31, e32, e33⟩, -⟩ := KB.out w3 ht03; have HT4 := hid (ht03.trans (Trn.alloc w3 (.cells #[.string ({ data := #[105, 102] } : ByteArray), .string (nmB c), .string A.txt, .string B.txt] 9))); obtain ⟨⟨e41, e42, e43⟩, -⟩ := KB.out _ HT4.out; have HD4 := hid (hd3.below ((Below.refl _ _).alloc (Nat.le_refl _) (.cells #[.string ({ data := #[105, 102] } : ByteArray), .string (nmB c), .string A.txt, .string B.txt] 9))); have HN3 := hid hn3; have HD3 := hid hd3; clear ht3 hn3 hd3 ht03)
      | (go_at_call 64; refine (HC1.out w1.drew n1 D1 (HD1.out.below ((Below.refl _ _).drew)) (by have := HN.out; have := HN1.out; omega)).mono ?_; rintro e w2 ⟨rfl, ht2, n2, D2, hn2, hd2⟩; have ht02 := (HT1.out.trans (Trn.below ((Below.refl _ w1).drew))).trans ht2; obtain ⟨⟨e21, e22, e23⟩, -⟩ := KB.out w2 ht02; have HT2 := hid ht02; have HN2 := hid hn2; have HD2 := hid hd2; clear ht2 hn2 hd2 ht02))
  go_wp2_with fail
  go_ret
  refine ⟨rfl, HW7.out, n3, D3, ?_, HD7.out⟩
  have := HN1.out; have := HN2.out; have := HN3.out; omega
end Go.Proofs.YtagifgekhboinaaGreatDoor

namespace Go.Proofs.YtagifgekhboinaaGreatDoor
open Go.RowKit

/-- A maker in memory: how many names it has given, how many atoms it has counted. -/
def MIn (mb c a : Nat) (w : World) : Prop := w.heap[mb]? = some (.cells #[.int .i64 (c : Int), .int .i64 (a : Int)] 55 (0, 0))
theorem MIn.grown {mb c a : Nat} {w w' : World} (h : MIn mb c a w) {r : Option Nat} (hg : w.grownBy w' r) (hr : r ≠ some mb) : MIn mb c a w' := block_grown h hg hr
theorem MIn.below {mb c a : Nat} {w w' : World} (h : MIn mb c a w) (hb : Below w.heap.size w w') : MIn mb c a w' := block_below h hb (lt_of_block h)
theorem MIn.lt {mb c a : Nat} {w : World} (h : MIn mb c a w) : mb < w.heap.size := lt_of_block h
/-- Trees that are no part of the maker. -/
def Own (mb : Nat) (S : Nat → Prop) : Prop := ∀ j, S j → j ≠ mb
/-- Where a tree lies that was made behind a world. -/
def Aft (w : World) (S : Nat → Prop) : Nat → Prop := fun j => (S j ∧ j < w.heap.size) ∨ w.heap.size ≤ j
theorem Own.aft {mb : Nat} {S : Nat → Prop} (h : Own mb S) {w : World} (hm : mb < w.heap.size) : Own mb (Aft w S) := by
  rintro j (⟨h1, _⟩ | h1)
  · exact h j h1
  · omega
/-- What is left behind a call of the maker. -/
def LPost (mb c a k : Nat) (S : Nat → Prop) (t : Tree) (w : World) (e : Ending) (w' : World) : Prop :=
  ∃ (h : Hd) (a' : Nat), e = .returned (.agg #[.string h.a, .slice h.p h.l h.c]) ∧ w.grownBy w' (some mb) ∧ a' ≤ a + k ∧ MIn mb c a' w' ∧ TIn w' (Aft w S) t h
theorem TIn.grownM {w w' : World} {S : Nat → Prop} {t : Tree} {h : Hd} {mb : Nat} (ht : TIn w S t h) (hg : w.grownBy w' (some mb)) (ho : Own mb S) : TIn w' (fun j => S j ∧ j < w.heap.size) t h :=
  ht.keep (fun k hk hl => hg.block k hl (by have := ho k hk; simp; omega)) (fun _ hk hl => ⟨hk, hl⟩)
theorem TIn.re {w : World} {S S' : Nat → Prop} {t : Tree} {h : Hd} (ht : TIn w S t h) (hS : ∀ k, S k → k < w.heap.size → S' k) : TIn w S' t h := ht.keep (fun _ _ _ => rfl) hS
/-- A result's block of two cells is written. -/
theorem grown_res {mb : Nat} {w w1 : World} (hg : w.grownBy w1 (some mb)) (r : Nat) (hr : w.heap.size ≤ r) (u v : Value) : w.grownBy ((w1.setCell ⟨r, 0, none⟩ u).setCell ⟨r, 1, none⟩ v) (some mb) :=
  hg.andThen (grown_pair w1 r u v) (fun j hj => by simp at hj; omega)
theorem set_pair {W : World} {b : Nat} {x y : Value} {t : TypeId} (h : W.heap[b]? = some (.cells #[x, y] t (0, 0))) (u : Value) : (W.setCell ⟨b, 0, none⟩ u).heap[b]? = some (.cells #[u, y] t (0, 0)) ∧ (W.setCell ⟨b, 1, none⟩ u).heap[b]? = some (.cells #[x, u] t (0, 0)) := by
  have hlt := lt_of_block h
  have h' : W.heap[b] = .cells #[x, y] t (0, 0) := by simpa [Array.getElem?_eq_getElem hlt] using h
  constructor <;>
  · show (W.heap.modify b _)[b]? = _
    rw [Array.getElem?_eq_getElem (by simpa using hlt), Array.getElem_modify_self, h']; rfl
theorem nm_decM (c : Nat) : ({ data := #[107] } : ByteArray) ++ decS c = nmB c := by
  unfold decS nmB; split <;> rfl

set_option maxRecDepth 100000 in
set_option maxHeartbeats 1000000 in
theorem l4Bit_any (k : Nat) (hk : k < 2) (w : World) : Calls Tryz.prog 46 #[.int .i64 (k : Int)] w fun e w' => e = .returned (.agg #[.string (bitS k), .slice none 0 0]) ∧ Below w.heap.size w w' := by
  have HD := hid (fun W => (show Calls Tryz.prog 71 #[.int .i64 (k : Int)] W fun e w' => e = .returned (.string (bitS k)) ∧ Below W.heap.size W w' from by have := l6Dec_dec k (by omega) W; rw [show decS k = bitS k by unfold decS bitS; rw [if_pos (by omega)]] at this; exact this))
  go_enter Tryz.func46, Tryz.ntmps46
  go_wp2_with (go_at_call 71; refine (HD.out _).mono ?_; rintro e w1 ⟨rfl, hb1⟩; have k0 := cells_of_pair (block_below (heap_new w (.cells #[.string ByteArray.empty, .slice none 0 0] 48) _ rfl) hb1 (by simp)))
  refine bodyPost_ret (v := .agg #[.string (bitS k), .slice none 0 0]) (by simp [results, Tryz.results46, go_sem, k0.1, k0.2.1]) rfl ?_
  exact ⟨rfl, ((((Below.refl w.heap.size w).alloc (Nat.le_refl _) _).trans (hb1.mono (by simp))).setCell (Nat.le_refl _) _).setCell (Nat.le_refl _) _⟩

set_option maxRecDepth 100000 in
set_option maxHeartbeats 1000000 in
theorem l6dMuch_any (mb c a : Nat) (hc : c ≤ 900) (ha : a ≤ 12000) (w : World) (hm : MIn mb c a w) : Calls Tryz.prog 43 #[.pointer (some ⟨mb, 0, none⟩)] w fun e w' => e = .returned (.bool false) ∧ w = w' := by
  obtain ⟨k1, k2, k3, k4⟩ := cells_of_pair hm
  have h1 : ¬ (12000 : Int) < (a : Int) := by omega
  have h2 : ¬ (900 : Int) < (c : Int) := by omega
  clear hm
  go_enter Tryz.func43, Tryz.ntmps43
  go_wp2_with fail
  go_ret
  exact ⟨rfl, rfl⟩

set_option maxRecDepth 100000 in
set_option maxHeartbeats 1000000 in
theorem l6dName_any (mb c a : Nat) (hc : c < 10) (S : Nat → Prop) (w : World) (hm : MIn mb c a w) : Calls Tryz.prog 48 #[.pointer (some ⟨mb, 0, none⟩)] w (LPost mb (c + 1) a 0 S (.atom (nmB c)) w) := by
  have HD := hid (fun W => l6Dec_dec c hc W)
  have hlt := hm.lt
  have HM0 := hid (hm.below ((Below.refl _ _).alloc (Nat.le_refl _) (.cells #[.string ({ data := #[] } : ByteArray), .slice none 0 0] 48)))
  obtain ⟨k1, k2, k3, k4⟩ := cells_of_pair HM0.out
  have h4 : (c : Int) < 10 := by omega
  have h3 : ¬ 9223372036854775807 < 1 + (decS c).size := by have := dec_size c; omega
  have HN := hid (nm_decM c)
  obtain ⟨W1, hW1⟩ : ∃ W1, W1 = (w.alloc (.cells #[.string ({ data := #[] } : ByteArray), .slice none 0 0] 48)).setCell ⟨mb, 0, none⟩ (.int .i64 ((c : Int) + 1)) := ⟨_, rfl⟩
  have HG1 := hid (show w.grownBy W1 (some mb) by rw [hW1]; exact (World.grownBy_alloc w _ (some mb)).trans (grown_off _ mb 0 _))
  have HM1 := hid (show MIn mb (c + 1) a W1 by rw [hW1]; exact (set_pair HM0.out _).1)
  have HS1 := hid (show W1.heap.size = w.heap.size + 1 by rw [hW1]; show (Array.modify _ _ _).size = _; simp)
  have HR1 := hid (show W1.heap[w.heap.size]? = some (.cells #[.string ({ data := #[] } : ByteArray), .slice none 0 0] 48) by
    rw [hW1]; exact block_grown (heap_new w _ _ rfl) (grown_off _ mb 0 _) (by simp; omega))
  have HW1 := hid hW1
  have HLT := hid hlt
  have q1 : IntKind.i64.wrap ((c : Int) + 1 - 1) = c := by rw [show (c : Int) + 1 - 1 = c by omega]; exact IntWalk.i64_in _ (by omega)
  have q2 : (c : Int) + 1 - 1 = c := by omega
  clear hm hlt hW1
  go_enter Tryz.func48, Tryz.ntmps48
  go_wp2_with (go_at_call 71; refine (HD.out _).mono ?_; rintro e w1 ⟨rfl, hb1⟩; rw [← HW1.out] at hb1; have k0 := cells_of_pair (block_below HR1.out hb1 (by have := HS1.out; omega)); have HB1 := hid hb1; clear hb1)
  refine bodyPost_ret (v := .agg #[.string (({ data := #[107] } : ByteArray) ++ decS c), .slice none 0 0]) (by simp [results, Tryz.results48, go_sem, k0.1, k0.2.1]) rfl ?_
  have hlt := HLT.out
  have hgp := grown_pair w1 w.heap.size (.string (({ data := #[107] } : ByteArray) ++ decS c)) (.slice none 0 0)
  refine ⟨⟨nmB c, none, 0, 0⟩, a, ?_, grown_res (HG1.out.trans (grown_any HB1.out _)) w.heap.size (Nat.le_refl _) _ _, by omega, (HM1.out.below HB1.out).grown hgp (by simp; omega), ?_⟩
  · rw [HN.out]
  · have h : (nmB c).size = 2 ∨ (nmB c).size = 3 := by unfold nmB; split <;> simp [ByteArray.size]
    exact .atom _ (by omega) (by unfold maxLen; omega)
end Go.Proofs.YtagifgekhboinaaGreatDoor

namespace Go.Proofs.YtagifgekhboinaaGreatDoor
open Go.RowKit

set_option maxRecDepth 100000 in
set_option maxHeartbeats 2000000 in
theorem l6dList_any (mb c a : Nat) (head : ByteArray) (hh : head.size ≠ 0) (hm : head.size ≤ 100) (L : List Hd) (n pg cp : Nat) (hl : L.length = n) (hn : 0 < n) (hn4 : n ≤ 4) (ts : List Tree) (hts : ts.length = n) (S : Nat → Prop) (hS : Own mb S) (w : World) (hM : MIn mb c a w) (ha : a ≤ 20000)
    (hc : ∀ (j : Nat) (u : Value), (two L)[j]? = some u → w.cell? ((⟨pg, 0, none⟩ : Addr).add j) = some u) (hpg : pg < w.heap.size) (hpm : pg ≠ mb) (ht : ∀ (i : Nat) (t : Tree) (h : Hd), ts[i]? = some t → L[i]? = some h → TIn w S t h) :
    Calls Tryz.prog 47 #[.pointer (some ⟨mb, 0, none⟩), .string head, .slice (some ⟨pg, 0, none⟩) n cp] w (LPost mb c a n S (.node (.atom head :: ts)) w) := by
  have hlt := hM.lt
  have hb0 := (Below.refl w.heap.size w).alloc (Nat.le_refl _) (.cells #[.string ({ data := #[] } : ByteArray), .slice none 0 0] 48)
  have hM0 := hM.below hb0
  obtain ⟨k1, k2, k3, k4⟩ := cells_of_pair hM0
  obtain ⟨W1, hW1⟩ : ∃ W1, W1 = (w.alloc (.cells #[.string ({ data := #[] } : ByteArray), .slice none 0 0] 48)).setCell ⟨mb, 1, none⟩ (.int .i64 ((a : Int) + (n : Int))) := ⟨_, rfl⟩
  have hg1 : w.grownBy W1 (some mb) := by rw [hW1]; exact (World.grownBy_alloc w _ (some mb)).trans (grown_off _ mb 1 _)
  have hM1 : MIn mb c (a + n) W1 := by rw [hW1]; exact (set_pair hM0 _).2
  have hs1 : W1.heap.size = w.heap.size + 1 := by rw [hW1]; show (Array.modify _ _ _).size = _; simp
  have hr1 : W1.heap[w.heap.size]? = some (.cells #[.string ({ data := #[] } : ByteArray), .slice none 0 0] 48 (0, 0)) := by
    rw [hW1]; exact block_grown (heap_new w _ _ rfl) (grown_off _ mb 1 _) (by simp; omega)
  have HR1 := hid hr1
  have HG1 := hid hg1
  have HM1 := hid hM1
  have HS1 := hid hs1
  have HL4 := hid (l4List_any head hh hm L n pg cp hl hn hn4 ts hts (fun j => (S j ∧ j < w.heap.size) ∨ W1.heap.size ≤ j) W1 (fun j u hu => by
      have h1 := hc j u hu
      have hb : ((⟨pg, 0, none⟩ : Addr).add j).block = pg := by unfold Addr.add; split <;> rfl
      rw [World.cell?_of_block (w := w) (a := (⟨pg, 0, none⟩ : Addr).add j) (by rw [hb]; exact hg1.block pg hpg (by simp; omega))]; exact h1)
    (fun i t h h1 h2 => ((ht i t h h1 h2).grownM hg1 hS).re (fun k hk _ => Or.inl hk)) (fun k hk => Or.inr hk))
  have HLT := hid hlt
  have HOWN := hid hS
  have h5 : (a : Int) ≤ 20000 := by omega
  have h6 : (n : Int) ≤ 4 := by omega
  rw [hW1] at HL4
  have HW1 := hid hW1
  clear hc ht hM hM0 hg1 hM1 hs1 hr1 hb0 hW1 hS hl hts hn4 hpg hpm hlt ha
  go_enter Tryz.func47, Tryz.ntmps47
  go_wp2_with (go_at_call 72; refine (HL4.out).mono ?_; rintro e w2 ⟨⟨⟨xa, xp, xl, xc⟩, rfl, ht2⟩, hb2⟩; rw [← HW1.out] at hb2 ht2; have k0 := cells_of_pair (block_below HR1.out hb2 (by have := HS1.out; omega)); have HB2 := hid hb2; have HT2 := hid ht2; clear hb2 ht2)
  refine bodyPost_ret (v := .agg #[.string xa, .slice xp xl xc]) (by simp [results, Tryz.results47, go_sem, k0.1, k0.2.1]) rfl ?_
  have hs := HS1.out
  have hlt := HLT.out
  have hgr := grown_res (HG1.out.trans (grown_any HB2.out _)) w.heap.size (Nat.le_refl _) (.string xa) (.slice xp xl xc)
  have hgp := grown_pair w2 w.heap.size (.string xa) (.slice xp xl xc)
  refine ⟨⟨xa, xp, xl, xc⟩, a + n, rfl, hgr, Nat.le_refl _, (HM1.out.below HB2.out).grown hgp (by simp; omega), ?_⟩
  refine HT2.out.keep (fun k hk _ => hgp.block k (by assumption) ?_) (fun k hk _ => ?_)
  · rcases hk with ⟨_, hk⟩ | hk
    · simp; omega
    · simp; omega
  · rcases hk with ⟨h1, h2⟩ | hk
    · exact Or.inl ⟨h1, h2⟩
    · exact Or.inr (by omega)
end Go.Proofs.YtagifgekhboinaaGreatDoor

namespace Go.Proofs.YtagifgekhboinaaGreatDoor
open Go.RowKit

/-- In old places, or in new ones that are not the result's. -/
def Bt (w : World) (r : Nat) (S : Nat → Prop) : Nat → Prop := fun j => (S j ∧ j < w.heap.size) ∨ (w.heap.size ≤ j ∧ j ≠ r)
theorem Own.bt {mb : Nat} {S : Nat → Prop} (h : Own mb S) {w : World} (hm : mb < w.heap.size) (r : Nat) : Own mb (Bt w r S) := by
  rintro j (⟨h1, _⟩ | ⟨h1, _⟩)
  · exact h j h1
  · omega
theorem TIn.enter {w W : World} {r : Nat} {S : Nat → Prop} {t : Tree} {h : Hd} (ht : TIn w S t h) {mb : Nat} (hg : w.grownBy W (some mb)) (ho : Own mb S) : TIn W (Bt w r S) t h :=
  (ht.grownM hg ho).re (fun _ hk _ => Or.inl hk)
theorem TIn.keepM {w W W' : World} {r mb : Nat} {S : Nat → Prop} {t : Tree} {h : Hd} (ht : TIn W (Bt w r S) t h) (hg : W.grownBy W' (some mb)) (ho : Own mb (Bt w r S)) : TIn W' (Bt w r S) t h :=
  (ht.grownM hg ho).re (fun _ hk _ => hk.1)
theorem TIn.aft {w W W' : World} {r : Nat} {S : Nat → Prop} {t : Tree} {h : Hd} (ht : TIn W' (Aft W (Bt w r S)) t h) (hr : r < W.heap.size) (hw : w.heap.size ≤ W.heap.size) : TIn W' (Bt w r S) t h :=
  ht.re (fun k hk _ => by
    rcases hk with ⟨h1, _⟩ | h1
    · exact h1
    · exact Or.inr ⟨by omega, by omega⟩)
/-- The result is stored. -/
theorem LPost.res {w w2 : World} {mb c a a' k r : Nat} {S : Nat → Prop} {t : Tree} {xa : ByteArray} {xp : Option Addr} {xl xc : Nat} (ht : TIn w2 (Bt w r S) t ⟨xa, xp, xl, xc⟩) (hg : w.grownBy w2 (some mb)) (hM : MIn mb c a' w2) (ha : a' ≤ a + k) (hr : w.heap.size ≤ r) (hm : mb < w.heap.size) :
    LPost mb c a k S t w (.returned (.agg #[.string xa, .slice xp xl xc])) ((w2.setCell ⟨r, 0, none⟩ (.string xa)).setCell ⟨r, 1, none⟩ (.slice xp xl xc)) := by
  have hgp := grown_pair w2 r (.string xa) (.slice xp xl xc)
  refine ⟨⟨xa, xp, xl, xc⟩, a', rfl, grown_res hg r hr _ _, ha, hM.grown hgp (by simp; omega), ?_⟩
  refine ht.keep (fun k hk hl => hgp.block k hl ?_) (fun k hk _ => ?_)
  · rcases hk with ⟨_, hk⟩ | ⟨_, hk⟩
    · simp; omega
    · simp; omega
  · rcases hk with hk | ⟨hk, _⟩
    · exact Or.inl hk
    · exact Or.inr hk
/-- A row of trees that a call has laid. -/
theorem row_two {w : World} {g : Nat} {cs : Array Value} {t : TypeId} (h : w.heap[g]? = some (.cells cs t (0, 0))) {L : List Hd} (hcs : cs.toList = two L) : ∀ (j : Nat) (u : Value), (two L)[j]? = some u → w.cell? ((⟨g, 0, none⟩ : Addr).add j) = some u := by
  intro j u hj
  have hadd : (⟨g, 0, none⟩ : Addr).add j = ⟨g, j, none⟩ := by unfold Addr.add; split <;> simp_all
  have e : cs[j]? = some u := by rw [← Array.getElem?_toList, hcs, hj]
  rw [hadd]
  simp only [World.cell?, h]
  exact e
theorem parts_one {w : World} {S : Nat → Prop} {t1 : Tree} {h1 : Hd} (a1 : TIn w S t1 h1) : ∀ (i : Nat) (t : Tree) (h : Hd), [t1][i]? = some t → [h1][i]? = some h → TIn w S t h
  | 0, t, h, e, f => by simp at e f; subst e; subst f; exact a1
  | i + 1, _, _, e, _ => by simp at e
theorem parts_two {w : World} {S : Nat → Prop} {t1 t2 : Tree} {h1 h2 : Hd} (a1 : TIn w S t1 h1) (a2 : TIn w S t2 h2) : ∀ (i : Nat) (t : Tree) (h : Hd), [t1, t2][i]? = some t → [h1, h2][i]? = some h → TIn w S t h
  | 0, t, h, e, f => by simp at e f; subst e; subst f; exact a1
  | 1, t, h, e, f => by simp at e f; subst e; subst f; exact a2
  | i + 2, _, _, e, _ => by simp at e
theorem parts_three {w : World} {S : Nat → Prop} {t1 t2 t3 : Tree} {h1 h2 h3 : Hd} (a1 : TIn w S t1 h1) (a2 : TIn w S t2 h2) (a3 : TIn w S t3 h3) : ∀ (i : Nat) (t : Tree) (h : Hd), [t1, t2, t3][i]? = some t → [h1, h2, h3][i]? = some h → TIn w S t h
  | 0, t, h, e, f => by simp at e f; subst e; subst f; exact a1
  | 1, t, h, e, f => by simp at e f; subst e; subst f; exact a2
  | 2, t, h, e, f => by simp at e f; subst e; subst f; exact a3
  | i + 3, _, _, e, _ => by simp at e
theorem bit_in (w : World) (S : Nat → Prop) (k : Nat) : TIn w S (bitT k) ⟨bitS k, none, 0, 0⟩ := .atom _ (by simp [bitS, ByteArray.size]) (by unfold maxLen; simp [bitS, ByteArray.size])
theorem name_in (w : World) (S : Nat → Prop) (c : Nat) : TIn w S (.atom (nmB c)) ⟨nmB c, none, 0, 0⟩ := by
  have h : (nmB c).size = 2 ∨ (nmB c).size = 3 := by unfold nmB; split <;> simp [ByteArray.size]
  exact .atom _ (by omega) (by unfold maxLen; omega)

/-- l6dList over a row that was just laid. -/
theorem list_row (mb c a : Nat) (head : ByteArray) (hh : head.size ≠ 0) (hm : head.size ≤ 100) (L : List Hd) (n cp : Nat) (hl : L.length = n) (hn : 0 < n) (hn4 : n ≤ 4) (ts : List Tree) (hts : ts.length = n) (S : Nat → Prop) (hS : Own mb S) (w : World) (hM : MIn mb c a w) (ha : a ≤ 20000) (cs : Array Value) (hcs : cs.toList = two L)
    (ht : ∀ (i : Nat) (t : Tree) (h : Hd), ts[i]? = some t → L[i]? = some h → TIn w S t h) :
    Calls Tryz.prog 47 #[.pointer (some ⟨mb, 0, none⟩), .string head, .slice (some ⟨w.heap.size, 0, none⟩) n cp] (w.alloc (.cells cs 48)) (LPost mb c a n S (.node (.atom head :: ts)) (w.alloc (.cells cs 48))) := by
  have hb := (Below.refl w.heap.size w).alloc (Nat.le_refl _) (.cells cs 48)
  exact l6dList_any mb c a head hh hm L n w.heap.size cp hl hn hn4 ts hts S hS _ (hM.below hb) ha (row_two (heap_new w (.cells cs 48) _ rfl) hcs) (by simp) (by have := hM.lt; omega)
    (fun i t h h1 h2 => (ht i t h h1 h2).under hb (fun _ _ hl => hl))
end Go.Proofs.YtagifgekhboinaaGreatDoor

namespace Go.Proofs.YtagifgekhboinaaGreatDoor
open Go.RowKit

set_option maxRecDepth 100000 in
set_option maxHeartbeats 4000000 in
theorem l6dZero_any (mb c a : Nat) (S : Nat → Prop) (hS : Own mb S) (w : World) (hM : MIn mb c a w) (ha : a ≤ 20000) : Calls Tryz.prog 112 #[.pointer (some ⟨mb, 0, none⟩)] w (LPost mb c a 1 S (retB 0) w) := by
  have HB := hid (fun W => l4Bit_any 0 (by decide) W)
  have hlt := hM.lt
  have HL := hid (fun W (h : MIn mb c a W) (ho : Own mb (Bt w w.heap.size S)) => list_row mb c a ({ data := #[114, 101, 116, 117, 114, 110] } : ByteArray) (by decide) (by decide) [⟨bitS 0, none, 0, 0⟩] 1 1 rfl (by decide) (by decide) [bitT 0] rfl (Bt w w.heap.size S) ho W h ha #[.string (bitS 0), .slice none 0 0] rfl (parts_one (bit_in W _ 0)))
  have HO := hid (hS.bt hlt w.heap.size)
  have HM := hid hM
  clear hS hM ha
  go_enter Tryz.func112, Tryz.ntmps112
  go_wp2_with (first
    | (go_at_call 47; have _ := HB1; refine (HL.out w1 HM1.out HO.out).mono ?_; rintro e w2 ⟨⟨xa, xp, xl, xc⟩, a2, rfl, hg2, ha2, hm2, ht2⟩; have hr2 := block_grown HR1.out hg2 (by simp; omega); obtain ⟨k1, k2, k3, k4⟩ := cells_of_pair hr2; have HG2 := hid hg2; have HA2 := hid ha2; have HM2 := hid hm2; have HT2 := hid ht2; clear hg2 ha2 hm2 ht2 hr2)
    | (go_at_call 46; refine (HB.out _).mono ?_; rintro e w1 ⟨rfl, hb1⟩; have hbw := ((Below.refl w.heap.size w).alloc (Nat.le_refl _) (.cells #[.string ({ data := #[] } : ByteArray), .slice none 0 0] 48)).trans (hb1.mono (by simp)); have HB1 := hid hbw; have HM1 := hid (HM.out.below hbw); have hsz := hb1.size; have HR1 := hid (block_grown (block_below (heap_new w (.cells #[.string ({ data := #[] } : ByteArray), .slice none 0 0] 48) _ rfl) hb1 (by simp)) (World.grownBy_alloc w1 (.cells #[.string (bitS 0), .slice none 0 0] 48) none) (by simp)); clear hb1 hbw))
  refine bodyPost_ret (v := .agg #[.string xa, .slice xp xl xc]) (by simp [results, Tryz.results112, go_sem, k1, k2]) rfl ?_
  simp only [World.size_alloc] at hsz
  have hg := ((grown_any HB1.out (some mb)).trans (World.grownBy_alloc w1 (.cells #[.string (bitS 0), .slice none 0 0] 48) (some mb))).trans HG2.out
  exact LPost.res (HT2.out.aft (by simp; omega) (by simp; omega)) hg HM2.out HA2.out (Nat.le_refl _) hlt
end Go.Proofs.YtagifgekhboinaaGreatDoor

namespace Go.Proofs.YtagifgekhboinaaGreatDoor
open Go.RowKit

set_option maxRecDepth 100000 in
set_option maxHeartbeats 4000000 in
theorem l6dNot_any (mb c a : Nat) (S : Nat → Prop) (hS : Own mb S) (v : Tree) (va : ByteArray) (vp : Option Addr) (vl vc : Nat) (w : World) (hv : TIn w S v ⟨va, vp, vl, vc⟩) (hM : MIn mb c a w) (ha : a ≤ 19000) : Calls Tryz.prog 94 #[.pointer (some ⟨mb, 0, none⟩), .agg #[.string va, .slice vp vl vc]] w (LPost mb c a 5 S (.node [.atom wIf, v, retB 0, retB 1]) w) := by
  have hlt := hM.lt
  have hg0 := (World.grownBy_alloc w (.cells #[.string va, .slice vp vl vc] 48) (some mb)).trans (World.grownBy_alloc (w.alloc (.cells #[.string va, .slice vp vl vc] 48)) (.cells #[.string ({ data := #[] } : ByteArray), .slice none 0 0] 48) (some mb))
  have HO := hid (hS.bt hlt (w.heap.size + 1))
  have HV0 := hid (show TIn ((w.alloc (.cells #[.string va, .slice vp vl vc] 48)).alloc (.cells #[.string ({ data := #[] } : ByteArray), .slice none 0 0] 48)) (Bt w (w.heap.size + 1) S) v ⟨va, vp, vl, vc⟩ from hv.enter hg0 hS)
  have HM0 := hid (show MIn mb c a ((w.alloc (.cells #[.string va, .slice vp vl vc] 48)).alloc (.cells #[.string ({ data := #[] } : ByteArray), .slice none 0 0] 48)) from hM.below (((Below.refl _ _).alloc (Nat.le_refl _) _).alloc (by simp) _))
  have KB := hid (fun W (h : ((w.alloc (.cells #[.string va, .slice vp vl vc] 48)).alloc (.cells #[.string ({ data := #[] } : ByteArray), .slice none 0 0] 48)).grownBy W (some mb)) => (show (W.cell? ⟨w.heap.size, 0, none⟩ = some (.string va) ∧ W.cell? ⟨w.heap.size, 1, none⟩ = some (.slice vp vl vc)) ∧ W.heap[w.heap.size + 1]? = some (.cells #[.string ({ data := #[] } : ByteArray), .slice none 0 0] 48) ∧ w.grownBy W (some mb) ∧ w.heap.size + 2 ≤ W.heap.size from by
    have h1 := block_grown (block_grown (heap_new w (.cells #[.string va, .slice vp vl vc] 48) _ rfl) (World.grownBy_alloc _ (.cells #[.string ({ data := #[] } : ByteArray), .slice none 0 0] 48) none) (by simp)) h (by simp; omega)
    have h2 := block_grown (heap_new (w.alloc (.cells #[.string va, .slice vp vl vc] 48)) (.cells #[.string ({ data := #[] } : ByteArray), .slice none 0 0] 48) (w.heap.size + 1) (by simp)) h (by simp; omega)
    have hsz := h.size
    simp at hsz
    exact ⟨⟨Trn.cell h1 rfl, Trn.cell h1 rfl⟩, h2, hg0.trans h, by omega⟩))
  have HZ := hid (fun W a1 (h : MIn mb c a1 W) (h1 : a1 ≤ 20000) => l6dZero_any mb c a1 (Bt w (w.heap.size + 1) S) HO.out W h h1)
  have HB := hid (fun W => l4Bit_any 1 (by decide) W)
  have HL1 := hid (fun W a1 (h : MIn mb c a1 W) (h1 : a1 ≤ 20000) => list_row mb c a1 ({ data := #[114, 101, 116, 117, 114, 110] } : ByteArray) (by decide) (by decide) [⟨bitS 1, none, 0, 0⟩] 1 1 rfl (by decide) (by decide) [bitT 1] rfl (Bt w (w.heap.size + 1) S) HO.out W h h1 #[.string (bitS 1), .slice none 0 0] rfl (parts_one (bit_in W _ 1)))
  have HL3 := hid (fun W a1 za zp zl zc ya yp yl yc (h : MIn mb c a1 W) (h1 : a1 ≤ 20000) (hv : TIn W (Bt w (w.heap.size + 1) S) v ⟨va, vp, vl, vc⟩) (hz : TIn W (Bt w (w.heap.size + 1) S) (retB 0) ⟨za, zp, zl, zc⟩) (hy : TIn W (Bt w (w.heap.size + 1) S) (retB 1) ⟨ya, yp, yl, yc⟩) => list_row mb c a1 ({ data := #[105, 102] } : ByteArray) (by decide) (by decide) [⟨va, vp, vl, vc⟩, ⟨za, zp, zl, zc⟩, ⟨ya, yp, yl, yc⟩] 3 3 rfl (by decide) (by decide) [v, retB 0, retB 1] rfl (Bt w (w.heap.size + 1) S) HO.out W h h1 #[.string va, .slice vp vl vc, .string za, .slice zp zl zc, .string ya, .slice yp yl yc] rfl (parts_three hv hz hy))
  clear hS hv hM hg0
  go_enter Tryz.func94, Tryz.ntmps94
  go_wp2_with fail
  obtain ⟨⟨d1, d2⟩, -, -, -⟩ := KB.out _ (World.grownBy.refl _ _)
  go_region_held3 (fun w' => w'.cell? ⟨w.heap.size, 0, none⟩ = some (.string va) ∧ w'.cell? ⟨w.heap.size, 1, none⟩ = some (.slice vp vl vc))
    (first | exact ⟨d1, d2⟩ | exact ⟨e61, e62⟩ | exact ⟨e51, e52⟩ | exact ⟨e41, e42⟩ | exact ⟨e31, e32⟩ | exact ⟨e21, e22⟩ | exact ⟨e11, e12⟩ | exact ⟨e01, e02⟩)
    (first
      | (have _ := HM4; go_at_call 47; refine (HL3.out w4 a4 za zp zl zc ya yp yl yc HM4.out (by have := HA1.out; have := HA4.out; omega) HV4.out HZ4.out HY4.out).mono ?_; rintro e w5 ⟨⟨xa, xp, xl, xc⟩, a5, rfl, hg5, ha5, hm5, ht5⟩; have hg05 := HG5.out.trans hg5; obtain ⟨⟨e51, e52⟩, hr5, hw5, hz5⟩ := KB.out w5 hg05; obtain ⟨k1, k2, k3, k4⟩ := cells_of_pair hr5; have hgp := grown_pair w5 (w.heap.size + 1) (.string xa) (.slice xp xl xc); have hb5 := block_grown (block_grown (block_grown (heap_new w (.cells #[.string va, .slice vp vl vc] 48) _ rfl) (World.grownBy_alloc _ (.cells #[.string ({ data := #[] } : ByteArray), .slice none 0 0] 48) none) (by simp)) hg05 (by simp; omega)) hgp (by simp); have e61 := Trn.cell (i := 0) hb5 rfl; have e62 := Trn.cell (i := 1) hb5 rfl; have HT5 := hid (ht5.aft (r := w.heap.size + 1) (w := w) (by have := HS5.out; simp; omega) (by have := HS5.out; simp; omega)); have HW5 := hid hw5; have HR5 := hid hr5; have HM5 := hid hm5; have HA5 := hid ha5; clear hg5 ha5 hm5 ht5 hg05 hr5 hw5 hgp hb5)
      | (have _ := HM3; go_at_call 47; refine (HL1.out w3 a1 HM3.out (by have := HA1.out; omega)).mono ?_; rintro e w4 ⟨⟨ya, yp, yl, yc⟩, a4, rfl, hg4, ha4, hm4, ht4⟩; have hgr := (World.grownBy_alloc w3 (.cells #[.string (bitS 1), .slice none 0 0] 48) (some mb)).trans hg4; have hg04 := HG3.out.trans hgr; obtain ⟨⟨e31, e32⟩, -, -, hz4⟩ := KB.out w4 hg04; have hga := hg04.trans (World.grownBy_alloc w4 (.cells #[.string va, .slice vp vl vc, .string za, .slice zp zl zc, .string ya, .slice yp yl yc] 48) (some mb)); obtain ⟨⟨e41, e42⟩, -, -, -⟩ := KB.out _ hga; have HG5 := hid hga; have HV4 := hid (HV3.out.keepM hgr HO.out); have HZ4 := hid (HZ3.out.keepM hgr HO.out); have HY4 := hid (ht4.aft (r := w.heap.size + 1) (w := w) (by have := HS3.out; simp; omega) (by have := HS3.out; simp; omega)); have HA4 := hid ha4; have HM4 := hid hm4; have HS5 := hid hz4; clear hg4 ha4 hm4 ht4 hgr hg04 hga hz4)
      | (have _ := HM2; go_at_call 46; refine (HB.out w2).mono ?_; rintro e w3 ⟨rfl, hb3⟩; have hg03 := HG2.out.trans (grown_any hb3 (some mb)); obtain ⟨⟨e21, e22⟩, -, -, hz3⟩ := KB.out w3 hg03; obtain ⟨⟨e01, e02⟩, -, -, -⟩ := KB.out _ (hg03.trans (World.grownBy_alloc w3 (.cells #[.string (bitS 1), .slice none 0 0] 48) (some mb))); have HG3 := hid hg03; have HS3 := hid hz3; have HM3 := hid (HM2.out.below hb3); have HV3 := hid (HV2.out.keepM (grown_any hb3 (some mb)) HO.out); have HZ3 := hid (HZ2.out.keepM (grown_any hb3 (some mb)) HO.out); clear hb3 hg03 hz3)
      | (go_at_call 112; refine (HZ.out ((w.alloc (.cells #[.string va, .slice vp vl vc] 48)).alloc (.cells #[.string ({ data := #[] } : ByteArray), .slice none 0 0] 48)).drew a HM0.out (by omega)).mono ?_; rintro e w2 ⟨⟨za, zp, zl, zc⟩, a1, rfl, hg2, ha1, hm2, ht2⟩; have hg02 : ((w.alloc (.cells #[.string va, .slice vp vl vc] 48)).alloc (.cells #[.string ({ data := #[] } : ByteArray), .slice none 0 0] 48)).grownBy w2 (some mb) := (grown_any ((Below.refl _ _).drew) (some mb)).trans hg2; obtain ⟨⟨e11, e12⟩, -, -, -⟩ := KB.out w2 hg02; have HG2 := hid hg02; have HA1 := hid ha1; have HM2 := hid hm2; have HZ2 := hid (ht2.aft (r := w.heap.size + 1) (w := w) (by simp) (by simp; omega)); have HV2 := hid (HV0.out.keepM hg02 HO.out); clear hg2 ha1 hm2 ht2 hg02))
  go_wp2_with fail
  have hx := cells_of_pair (set_pair (set_pair HR5.out (.string xa)).1 (.slice xp xl xc)).2
  refine bodyPost_ret (v := .agg #[.string xa, .slice xp xl xc]) (by simp [results, Tryz.results94, go_sem, hx.1, hx.2.1]) rfl ?_
  exact LPost.res HT5.out HW5.out HM5.out (by have := HA1.out; have := HA4.out; have := HA5.out; omega) (by omega) hlt
end Go.Proofs.YtagifgekhboinaaGreatDoor

namespace Go.Proofs.YtagifgekhboinaaGreatDoor
open Go.RowKit

set_option maxRecDepth 100000 in
set_option maxHeartbeats 4000000 in
theorem l6dTest_one (mb c a : Nat) (S : Nat → Prop) (hS : Own mb S) (v : Tree) (va : ByteArray) (vp : Option Addr) (vl vc : Nat) (w : World) (hv : TIn w S v ⟨va, vp, vl, vc⟩) (hM : MIn mb c a w) (ha : a ≤ 19000) : Calls Tryz.prog 74 #[.pointer (some ⟨mb, 0, none⟩), .agg #[.string ({ data := #[98] } : ByteArray), .slice none 0 0], .agg #[.string va, .slice vp vl vc], .int .i64 1] w (LPost mb c a 1 S (tbit v 1) w) := by
  have hlt := hM.lt
  have hg0 : w.grownBy (((w.alloc (.cells #[.string ({ data := #[98] } : ByteArray), .slice none 0 0] 48)).alloc (.cells #[.string va, .slice vp vl vc] 48)).alloc (.cells #[.string ({ data := #[] } : ByteArray), .slice none 0 0] 48)) (some mb) := ((World.grownBy_alloc w (.cells #[.string ({ data := #[98] } : ByteArray), .slice none 0 0] 48) (some mb)).trans (World.grownBy_alloc (w.alloc (.cells #[.string ({ data := #[98] } : ByteArray), .slice none 0 0] 48)) (.cells #[.string va, .slice vp vl vc] 48) (some mb))).trans (World.grownBy_alloc _ (.cells #[.string ({ data := #[] } : ByteArray), .slice none 0 0] 48) (some mb))
  have HO := hid (hS.bt hlt (w.heap.size + 1 + 1))
  have hv0 : TIn (((w.alloc (.cells #[.string ({ data := #[98] } : ByteArray), .slice none 0 0] 48)).alloc (.cells #[.string va, .slice vp vl vc] 48)).alloc (.cells #[.string ({ data := #[] } : ByteArray), .slice none 0 0] 48)) (Bt w (w.heap.size + 1 + 1) S) v ⟨va, vp, vl, vc⟩ := hv.enter hg0 hS
  have hm0 : MIn mb c a (((w.alloc (.cells #[.string ({ data := #[98] } : ByteArray), .slice none 0 0] 48)).alloc (.cells #[.string va, .slice vp vl vc] 48)).alloc (.cells #[.string ({ data := #[] } : ByteArray), .slice none 0 0] 48)) := hM.below ((((Below.refl _ _).alloc (Nat.le_refl _) _).alloc (by simp) _).alloc (by simp; omega) _)
  have hr0 : (((w.alloc (.cells #[.string ({ data := #[98] } : ByteArray), .slice none 0 0] 48)).alloc (.cells #[.string va, .slice vp vl vc] 48)).alloc (.cells #[.string ({ data := #[] } : ByteArray), .slice none 0 0] 48)).heap[w.heap.size + 1 + 1]? = some (.cells #[.string ({ data := #[] } : ByteArray), .slice none 0 0] 48) := heap_new _ _ _ (by simp)
  have HG0 := hid hg0
  have hll := (list_row mb c a ({ data := #[114, 101, 116, 117, 114, 110] } : ByteArray) (by decide) (by decide) [⟨va, vp, vl, vc⟩] 1 1 rfl (by decide) (by decide) [v] rfl (Bt w (w.heap.size + 1 + 1) S) HO.out _ hm0 (by omega) #[.string va, .slice vp vl vc] rfl (parts_one hv0))
  rw [show (((w.alloc (.cells #[.string ({ data := #[98] } : ByteArray), .slice none 0 0] 48)).alloc (.cells #[.string va, .slice vp vl vc] 48)).alloc (.cells #[.string ({ data := #[] } : ByteArray), .slice none 0 0] 48)).heap.size = w.heap.size + 1 + 1 + 1 by simp] at hll
  have HL := hid hll
  have HR0 := hid (block_grown hr0 (World.grownBy_alloc (((w.alloc (.cells #[.string ({ data := #[98] } : ByteArray), .slice none 0 0] 48)).alloc (.cells #[.string va, .slice vp vl vc] 48)).alloc (.cells #[.string ({ data := #[] } : ByteArray), .slice none 0 0] 48)) (.cells #[.string va, .slice vp vl vc] 48) none) (by simp))
  rw [show tbit v 1 = .node [.atom wReturn, v] from if_pos rfl]
  clear hS hv hM hg0 hv0 hm0 hr0 hll
  go_enter Tryz.func74, Tryz.ntmps74
  go_wp2_with (go_at_call 47; refine (HL.out).mono ?_; rintro e w2 ⟨⟨xa, xp, xl, xc⟩, a2, rfl, hg2, ha2, hm2, ht2⟩; have hr2 := block_grown HR0.out hg2 (by simp; omega); obtain ⟨k1, k2, k3, k4⟩ := cells_of_pair hr2; have HG2 := hid hg2; have HA2 := hid ha2; have HM2 := hid hm2; have HT2 := hid ht2; clear hg2 ha2 hm2 ht2 hr2)
  refine bodyPost_ret (v := .agg #[.string xa, .slice xp xl xc]) (by simp [results, Tryz.results74, go_sem, k1, k2]) rfl ?_
  exact LPost.res (HT2.out.aft (by simp) (by simp; omega)) ((HG0.out.trans (World.grownBy_alloc _ _ (some mb))).trans HG2.out) HM2.out HA2.out (by omega) hlt

set_option maxRecDepth 100000 in
set_option maxHeartbeats 4000000 in
theorem l6dTest_zero (mb c a : Nat) (S : Nat → Prop) (hS : Own mb S) (v : Tree) (va : ByteArray) (vp : Option Addr) (vl vc : Nat) (w : World) (hv : TIn w S v ⟨va, vp, vl, vc⟩) (hM : MIn mb c a w) (ha : a ≤ 19000) : Calls Tryz.prog 74 #[.pointer (some ⟨mb, 0, none⟩), .agg #[.string ({ data := #[98] } : ByteArray), .slice none 0 0], .agg #[.string va, .slice vp vl vc], .int .i64 0] w (LPost mb c a 5 S (tbit v 0) w) := by
  have hlt := hM.lt
  have hg0 : w.grownBy (((w.alloc (.cells #[.string ({ data := #[98] } : ByteArray), .slice none 0 0] 48)).alloc (.cells #[.string va, .slice vp vl vc] 48)).alloc (.cells #[.string ({ data := #[] } : ByteArray), .slice none 0 0] 48)) (some mb) := ((World.grownBy_alloc w (.cells #[.string ({ data := #[98] } : ByteArray), .slice none 0 0] 48) (some mb)).trans (World.grownBy_alloc (w.alloc (.cells #[.string ({ data := #[98] } : ByteArray), .slice none 0 0] 48)) (.cells #[.string va, .slice vp vl vc] 48) (some mb))).trans (World.grownBy_alloc _ (.cells #[.string ({ data := #[] } : ByteArray), .slice none 0 0] 48) (some mb))
  have HO := hid (hS.bt hlt (w.heap.size + 1 + 1))
  have hv0 : TIn (((w.alloc (.cells #[.string ({ data := #[98] } : ByteArray), .slice none 0 0] 48)).alloc (.cells #[.string va, .slice vp vl vc] 48)).alloc (.cells #[.string ({ data := #[] } : ByteArray), .slice none 0 0] 48)) (Bt w (w.heap.size + 1 + 1) S) v ⟨va, vp, vl, vc⟩ := hv.enter hg0 hS
  have hm0 : MIn mb c a (((w.alloc (.cells #[.string ({ data := #[98] } : ByteArray), .slice none 0 0] 48)).alloc (.cells #[.string va, .slice vp vl vc] 48)).alloc (.cells #[.string ({ data := #[] } : ByteArray), .slice none 0 0] 48)) := hM.below ((((Below.refl _ _).alloc (Nat.le_refl _) _).alloc (by simp) _).alloc (by simp; omega) _)
  have hr0 : (((w.alloc (.cells #[.string ({ data := #[98] } : ByteArray), .slice none 0 0] 48)).alloc (.cells #[.string va, .slice vp vl vc] 48)).alloc (.cells #[.string ({ data := #[] } : ByteArray), .slice none 0 0] 48)).heap[w.heap.size + 1 + 1]? = some (.cells #[.string ({ data := #[] } : ByteArray), .slice none 0 0] 48) := heap_new _ _ _ (by simp)
  have HG0 := hid hg0
  have HL := hid (l6dNot_any mb c a (Bt w (w.heap.size + 1 + 1) S) HO.out v va vp vl vc _ hv0 hm0 ha)
  have HR0 := hid hr0
  rw [show tbit v 0 = .node [.atom wIf, v, retB 0, retB 1] from if_neg (by decide)]
  clear hS hv hM hg0 hv0 hm0 hr0
  go_enter Tryz.func74, Tryz.ntmps74
  go_wp2_with (go_at_call 94; refine (HL.out).mono ?_; rintro e w2 ⟨⟨xa, xp, xl, xc⟩, a2, rfl, hg2, ha2, hm2, ht2⟩; have hr2 := block_grown HR0.out hg2 (by simp; omega); obtain ⟨k1, k2, k3, k4⟩ := cells_of_pair hr2; have HG2 := hid hg2; have HA2 := hid ha2; have HM2 := hid hm2; have HT2 := hid ht2; clear hg2 ha2 hm2 ht2 hr2)
  refine bodyPost_ret (v := .agg #[.string xa, .slice xp xl xc]) (by simp [results, Tryz.results74, go_sem, k1, k2]) rfl ?_
  exact LPost.res (HT2.out.aft (by simp) (by simp; omega)) (HG0.out.trans HG2.out) HM2.out HA2.out (by omega) hlt
end Go.Proofs.YtagifgekhboinaaGreatDoor

namespace Go.Proofs.YtagifgekhboinaaGreatDoor
open Go.RowKit

theorem hd_eta (h : Hd) : h = ⟨h.a, h.p, h.l, h.c⟩ := rfl
theorem node_two {w : World} {S : Nat → Prop} {p0 p1 : Tree} {a : ByteArray} {p : Option Addr} {l c : Nat} (h : TIn w S (.node [p0, p1]) ⟨a, p, l, c⟩) :
    ∃ (b : Nat) (a0 a1 : ByteArray) (q0 q1 : Option Addr) (l0 l1 c0 c1 : Nat), a = ({ data := #[] } : ByteArray) ∧ p = some ⟨b, 0, none⟩ ∧ l = 2 ∧ 2 ≤ c ∧ c ≤ maxLen ∧ S b ∧
      w.cell? ⟨b, 0, none⟩ = some (.string a0) ∧ w.cell? ⟨b, 2, none⟩ = some (.string a1) ∧ w.cell? ⟨b, 3, none⟩ = some (.slice q1 l1 c1) ∧ TIn w S p0 ⟨a0, q0, l0, c0⟩ ∧ TIn w S p1 ⟨a1, q1, l1, c1⟩ := by
  cases h with
  | node ps b cap A hp hl hc hS hA hB hps =>
    exact ⟨b, (A 0).a, (A 1).a, (A 0).p, (A 1).p, (A 0).l, (A 1).l, (A 0).c, (A 1).c, rfl, rfl, rfl, hl, hc, hS, hA 0 (by simp), hA 1 (by simp), hB 1 (by simp), hps 0 p0 rfl, hps 1 p1 rfl⟩
theorem node_three {w : World} {S : Nat → Prop} {p0 p1 p2 : Tree} {a : ByteArray} {p : Option Addr} {l c : Nat} (h : TIn w S (.node [p0, p1, p2]) ⟨a, p, l, c⟩) :
    ∃ (b : Nat) (a0 a1 a2 : ByteArray) (q0 q1 q2 : Option Addr) (l0 l1 l2 c0 c1 c2 : Nat), a = ({ data := #[] } : ByteArray) ∧ p = some ⟨b, 0, none⟩ ∧ l = 3 ∧ 3 ≤ c ∧ c ≤ maxLen ∧ S b ∧
      w.cell? ⟨b, 0, none⟩ = some (.string a0) ∧ w.cell? ⟨b, 2, none⟩ = some (.string a1) ∧ w.cell? ⟨b, 3, none⟩ = some (.slice q1 l1 c1) ∧ w.cell? ⟨b, 4, none⟩ = some (.string a2) ∧ w.cell? ⟨b, 5, none⟩ = some (.slice q2 l2 c2) ∧
      TIn w S p0 ⟨a0, q0, l0, c0⟩ ∧ TIn w S p1 ⟨a1, q1, l1, c1⟩ ∧ TIn w S p2 ⟨a2, q2, l2, c2⟩ := by
  cases h with
  | node ps b cap A hp hl hc hS hA hB hps =>
    exact ⟨b, (A 0).a, (A 1).a, (A 2).a, (A 0).p, (A 1).p, (A 2).p, (A 0).l, (A 1).l, (A 2).l, (A 0).c, (A 1).c, (A 2).c, rfl, rfl, rfl, hl, hc, hS, hA 0 (by simp), hA 1 (by simp), hB 1 (by simp), hA 2 (by simp), hB 2 (by simp), hps 0 p0 rfl, hps 1 p1 rfl, hps 2 p2 rfl⟩
theorem atom_text {w : World} {S : Nat → Prop} {s a : ByteArray} {p : Option Addr} {l c : Nat} (h : TIn w S (.atom s) ⟨a, p, l, c⟩) : a = s ∧ p = none ∧ l = 0 ∧ c = 0 := by
  cases h with
  | atom s _ _ => exact ⟨rfl, rfl, rfl, rfl⟩
/-- A cell in a block that a grown world keeps. -/
theorem cell_keptM {w W : World} {b i : Nat} {v : Value} {mb : Nat} (h : w.cell? ⟨b, i, none⟩ = some v) (hg : w.grownBy W (some mb)) (hb : b ≠ mb) : W.cell? ⟨b, i, none⟩ = some v :=
  (World.cell?_of_block (w := w) (a := ⟨b, i, none⟩) (hg.block b (World.block_lt_of_cell? w _ h) (by simp; omega))).trans h
end Go.Proofs.YtagifgekhboinaaGreatDoor

namespace Go.Proofs.YtagifgekhboinaaGreatDoor
open Go.RowKit

/-- A box that holds a tree. -/
def Bx (w : World) (r vb : Nat) (S : Nat → Prop) (V : Tree) (va : ByteArray) (vp : Option Addr) (vl vc : Nat) (W : World) : Prop :=
  W.heap[vb]? = some (.cells #[.string va, .slice vp vl vc] 48) ∧ TIn W (Bt w r S) V ⟨va, vp, vl, vc⟩ ∧ w.heap.size ≤ vb ∧ vb ≠ r
theorem Bx.keepM {w W W' : World} {r vb mb : Nat} {S : Nat → Prop} {V : Tree} {va : ByteArray} {vp : Option Addr} {vl vc : Nat} (h : Bx w r vb S V va vp vl vc W) (hg : W.grownBy W' (some mb)) (ho : Own mb (Bt w r S)) (hm : mb < w.heap.size) : Bx w r vb S V va vp vl vc W' :=
  ⟨block_grown h.1 hg (by have := h.2.2.1; simp; omega), h.2.1.keepM hg ho, h.2.2⟩
theorem Bx.cells {w W : World} {r vb : Nat} {S : Nat → Prop} {V : Tree} {va : ByteArray} {vp : Option Addr} {vl vc : Nat} (h : Bx w r vb S V va vp vl vc W) : W.cell? ⟨vb, 0, none⟩ = some (.string va) ∧ W.cell? ⟨vb, 1, none⟩ = some (.slice vp vl vc) := ⟨Trn.cell h.1 rfl, Trn.cell h.1 rfl⟩
/-- l6dList over a row that lies. -/
theorem list_at (mb c a : Nat) (head : ByteArray) (hh : head.size ≠ 0) (hm : head.size ≤ 100) (L : List Hd) (n cp pg : Nat) (hl : L.length = n) (hn : 0 < n) (hn4 : n ≤ 4) (ts : List Tree) (hts : ts.length = n) (S : Nat → Prop) (hS : Own mb S) (w : World) (hM : MIn mb c a w) (ha : a ≤ 20000) (cs : Array Value) (hb : w.heap[pg]? = some (.cells cs 48 (0, 0))) (hcs : cs.toList = two L) (hpm : pg ≠ mb)
    (ht : ∀ (i : Nat) (t : Tree) (h : Hd), ts[i]? = some t → L[i]? = some h → TIn w S t h) :
    Calls Tryz.prog 47 #[.pointer (some ⟨mb, 0, none⟩), .string head, .slice (some ⟨pg, 0, none⟩) n cp] w (LPost mb c a n S (.node (.atom head :: ts)) w) :=
  l6dList_any mb c a head hh hm L n pg cp hl hn hn4 ts hts S hS w hM ha (row_two hb hcs) (lt_of_block hb) hpm ht
/-- The box stood before the call. -/
theorem bx_before {w w1 w2 : World} {r mb c a : Nat} {S : Nat → Prop} {V : Tree} {va : ByteArray} {vp : Option Addr} {vl vc : Nat} (hr : r < w1.heap.size) (hw : w.heap.size ≤ w1.heap.size) (hm : mb < w.heap.size) (hg : (w1.alloc (.cells #[.string ({ data := #[] } : ByteArray), .slice none 0 0] 48)).drew.grownBy w2 (some mb))
    (hM : MIn mb c a w2) (ht : TIn w2 (Aft (w1.alloc (.cells #[.string ({ data := #[] } : ByteArray), .slice none 0 0] 48)).drew (fun j => Bt w r S j ∧ j ≠ w1.heap.size)) V ⟨va, vp, vl, vc⟩) :
    (w2.cell? ⟨w1.heap.size, 0, none⟩ = some (.string ({ data := #[] } : ByteArray)) ∧ w2.cell? ⟨w1.heap.size, 1, none⟩ = some (.slice none 0 0) ∧ w2.frozen? ⟨w1.heap.size, 0, none⟩ = false ∧ w2.frozen? ⟨w1.heap.size, 1, none⟩ = false) ∧
    w1.grownBy w2 (some mb) ∧ w1.grownBy ((w2.setCell ⟨w1.heap.size, 0, none⟩ (.string va)).setCell ⟨w1.heap.size, 1, none⟩ (.slice vp vl vc)) (some mb) ∧
    MIn mb c a ((w2.setCell ⟨w1.heap.size, 0, none⟩ (.string va)).setCell ⟨w1.heap.size, 1, none⟩ (.slice vp vl vc)) ∧
    Bx w r w1.heap.size S V va vp vl vc ((w2.setCell ⟨w1.heap.size, 0, none⟩ (.string va)).setCell ⟨w1.heap.size, 1, none⟩ (.slice vp vl vc)) := by
  have hg1 : w1.grownBy w2 (some mb) := (World.grownBy_alloc w1 (.cells #[.string ({ data := #[] } : ByteArray), .slice none 0 0] 48) (some mb)).trans (show (w1.alloc (.cells #[.string ({ data := #[] } : ByteArray), .slice none 0 0] 48)).grownBy w2 (some mb) from (grown_any ((Below.refl _ _).drew) (some mb)).trans hg)
  have hb : w2.heap[w1.heap.size]? = some (.cells #[.string ({ data := #[] } : ByteArray), .slice none 0 0] 48) := block_grown (show (w1.alloc (.cells #[.string ({ data := #[] } : ByteArray), .slice none 0 0] 48)).drew.heap[w1.heap.size]? = some (.cells #[.string ({ data := #[] } : ByteArray), .slice none 0 0] 48) from heap_new w1 _ _ rfl) hg (by simp; omega)
  have hgp := grown_pair w2 w1.heap.size (.string va) (.slice vp vl vc)
  refine ⟨cells_of_pair hb, hg1, grown_res hg1 w1.heap.size (Nat.le_refl _) _ _, hM.grown hgp (by simp; omega), (set_pair (set_pair hb _).1 _).2, ?_, hw, by omega⟩
  have hsz : (w1.alloc (.cells #[.string ({ data := #[] } : ByteArray), .slice none 0 0] 48)).drew.heap.size = w1.heap.size + 1 := by show (w1.alloc (.cells #[.string ({ data := #[] } : ByteArray), .slice none 0 0] 48)).heap.size = _; simp
  refine ht.keep (fun k hk hl => hgp.block k hl ?_) (fun k hk _ => ?_)
  · rcases hk with ⟨⟨_, hk⟩, _⟩ | hk
    · simp; omega
    · rw [hsz] at hk; simp; omega
  · rcases hk with ⟨⟨hk, _⟩, _⟩ | hk
    · exact hk
    · rw [hsz] at hk; exact Or.inr ⟨by omega, by omega⟩
/-- The box stands behind the call. -/
theorem bx_behind {w w1 w2 : World} {r mb c a : Nat} {S : Nat → Prop} {V : Tree} {va : ByteArray} {vp : Option Addr} {vl vc : Nat} (hr : r < w1.heap.size) (hw : w.heap.size ≤ w1.heap.size) (hg : w1.drew.grownBy w2 (some mb))
    (hM : MIn mb c a w2) (ht : TIn w2 (Aft w1.drew (Bt w r S)) V ⟨va, vp, vl, vc⟩) :
    w1.grownBy w2 (some mb) ∧ w1.grownBy (w2.alloc (.cells #[.string va, .slice vp vl vc] 48)) (some mb) ∧ MIn mb c a (w2.alloc (.cells #[.string va, .slice vp vl vc] 48)) ∧ Bx w r w2.heap.size S V va vp vl vc (w2.alloc (.cells #[.string va, .slice vp vl vc] 48)) := by
  have hg1 : w1.grownBy w2 (some mb) := (grown_any ((Below.refl _ _).drew) (some mb)).trans hg
  have hb := (Below.refl w2.heap.size w2).alloc (Nat.le_refl _) (.cells #[.string va, .slice vp vl vc] 48)
  have h2 := hg1.size
  exact ⟨hg1, hg1.trans (World.grownBy_alloc w2 _ (some mb)), hM.below hb, heap_new w2 _ _ rfl, (ht.aft (show r < w1.drew.heap.size from hr) (show w.heap.size ≤ w1.drew.heap.size from hw)).under hb (fun _ _ hl => hl), by omega, by omega⟩
end Go.Proofs.YtagifgekhboinaaGreatDoor

namespace Go.Proofs.YtagifgekhboinaaGreatDoor
open Go.RowKit

set_option maxRecDepth 100000 in
set_option maxHeartbeats 4000000 in
theorem l6dDefine_bit (mb c a k : Nat) (hk : k < 2) (S : Nat → Prop) (w : World) (hM : MIn mb c a w) : Calls Tryz.prog 23 #[.pointer (some ⟨mb, 0, none⟩), .agg #[.string ({ data := #[98] } : ByteArray), .slice none 0 0], .int .i64 (k : Int)] w (LPost mb c a 0 S (bitT k) w) := by
  have hlt := hM.lt
  have hg0 : w.grownBy ((w.alloc (.cells #[.string ({ data := #[98] } : ByteArray), .slice none 0 0] 48)).alloc (.cells #[.string ({ data := #[] } : ByteArray), .slice none 0 0] 48)) (some mb) := (World.grownBy_alloc w (.cells #[.string ({ data := #[98] } : ByteArray), .slice none 0 0] 48) (some mb)).trans (World.grownBy_alloc (w.alloc (.cells #[.string ({ data := #[98] } : ByteArray), .slice none 0 0] 48)) (.cells #[.string ({ data := #[] } : ByteArray), .slice none 0 0] 48) (some mb))
  have hm0 : MIn mb c a ((w.alloc (.cells #[.string ({ data := #[98] } : ByteArray), .slice none 0 0] 48)).alloc (.cells #[.string ({ data := #[] } : ByteArray), .slice none 0 0] 48)) := hM.below (((Below.refl _ _).alloc (Nat.le_refl _) _).alloc (by simp) _)
  have hr0 : ((w.alloc (.cells #[.string ({ data := #[98] } : ByteArray), .slice none 0 0] 48)).alloc (.cells #[.string ({ data := #[] } : ByteArray), .slice none 0 0] 48)).heap[w.heap.size + 1]? = some (.cells #[.string ({ data := #[] } : ByteArray), .slice none 0 0] 48) := heap_new _ _ _ (by simp)
  have HB := hid (fun W => l4Bit_any k hk W)
  have n1 : (k : Int).tmod 2 = k := by have := rest_t k 2; rw [Nat.mod_eq_of_lt hk] at this; exact this
  have n2 : (k : Int) % 2 = k := by omega
  have n3 : IntKind.i64.wrap (k : Int) = k := IntWalk.i64_in _ (by omega)
  have HG0 := hid hg0
  have HM0 := hid hm0
  have HR0 := hid hr0
  clear hM hg0 hm0 hr0
  go_enter Tryz.func23, Tryz.ntmps23
  go_wp2_with (go_at_call 46; refine (HB.out _).mono ?_; rintro e w2 ⟨rfl, hb2⟩; have hr2 := block_below HR0.out hb2 (by simp); obtain ⟨k1, k2, k3, k4⟩ := cells_of_pair hr2; have HB2 := hid hb2; clear hb2 hr2)
  refine bodyPost_ret (v := .agg #[.string (bitS k), .slice none 0 0]) (by simp [results, Tryz.results23, go_sem, k1, k2]) rfl ?_
  exact LPost.res (bit_in _ _ k) (HG0.out.trans (grown_any HB2.out (some mb))) (HM0.out.below HB2.out) (by omega) (by omega) hlt

set_option maxRecDepth 100000 in
set_option maxHeartbeats 4000000 in
theorem l6dDefine_thunk (x : Ty) (mb c c1 a k m : Nat) (V : Tree) (S : Nat → Prop) (hS : Own mb S) (ta : ByteArray) (tp : Option Addr) (tl tc : Nat) (w : World) (ht : TIn w S (Ty.thunk x).tree ⟨ta, tp, tl, tc⟩) (hM : MIn mb c a w) (ha : a + m ≤ 11000) (hc : c ≤ 900)
    (H : ∀ (S : Nat → Prop) (h : Hd) W, Own mb S → TIn W S x.tree h → MIn mb c a W → Calls Tryz.prog 23 #[.pointer (some ⟨mb, 0, none⟩), .agg #[.string h.a, .slice h.p h.l h.c], .int .i64 (k : Int)] W (LPost mb c1 a m S V W)) :
    Calls Tryz.prog 23 #[.pointer (some ⟨mb, 0, none⟩), .agg #[.string ta, .slice tp tl tc], .int .i64 (k : Int)] w (LPost mb c1 a (m + 1) S (.node [.atom wThunk, V]) w) := by
  have hlt := hM.lt
  obtain ⟨tb, a0, a1, q0, q1, l0, l1, c0, cc1, rfl, rfl, rfl, hc2, hcm, hSb, g1, g2, g3, hx0, hx1⟩ := node_two (p0 := .atom ⟨#[117]⟩) (p1 := x.tree) ht
  obtain ⟨rfl, rfl, rfl, rfl⟩ := atom_text hx0
  have hbm : tb ≠ mb := hS tb hSb
  have htl : tb < w.heap.size := World.block_lt_of_cell? w _ g2
  have HO := hid (hS.bt hlt (w.heap.size + 1))
  have hg0 : w.grownBy ((w.alloc (.cells #[.string ({ data := #[] } : ByteArray), .slice (some ⟨tb, 0, none⟩) 2 tc] 48)).alloc (.cells #[.string ({ data := #[] } : ByteArray), .slice none 0 0] 48)) (some mb) := (World.grownBy_alloc w (.cells #[.string ({ data := #[] } : ByteArray), .slice (some ⟨tb, 0, none⟩) 2 tc] 48) (some mb)).trans (World.grownBy_alloc (w.alloc (.cells #[.string ({ data := #[] } : ByteArray), .slice (some ⟨tb, 0, none⟩) 2 tc] 48)) (.cells #[.string ({ data := #[] } : ByteArray), .slice none 0 0] 48) (some mb))
  have hx' : TIn ((w.alloc (.cells #[.string ({ data := #[] } : ByteArray), .slice (some ⟨tb, 0, none⟩) 2 tc] 48)).alloc (.cells #[.string ({ data := #[] } : ByteArray), .slice none 0 0] 48)) (Bt w (w.heap.size + 1) S) x.tree ⟨a1, q1, l1, cc1⟩ := hx1.enter hg0 hS
  have hm0 : MIn mb c a ((w.alloc (.cells #[.string ({ data := #[] } : ByteArray), .slice (some ⟨tb, 0, none⟩) 2 tc] 48)).alloc (.cells #[.string ({ data := #[] } : ByteArray), .slice none 0 0] 48)) := hM.below (((Below.refl _ _).alloc (Nat.le_refl _) _).alloc (by simp) _)
  have d1 := cell_keptM g1 hg0 hbm
  have d2 := cell_keptM g2 hg0 hbm
  have d3 := cell_keptM g3 hg0 hbm
  have hr0 : ((w.alloc (.cells #[.string ({ data := #[] } : ByteArray), .slice (some ⟨tb, 0, none⟩) 2 tc] 48)).alloc (.cells #[.string ({ data := #[] } : ByteArray), .slice none 0 0] 48)).heap[w.heap.size + 1]? = some (.cells #[.string ({ data := #[] } : ByteArray), .slice none 0 0] 48) := heap_new _ _ _ (by simp)
  have HMU := hid (fun W (h : MIn mb c a W) => l6dMuch_any mb c a hc (by omega) W h)
  have HD := hid (H (Bt w (w.heap.size + 1) S) ⟨a1, q1, l1, cc1⟩ _ HO.out hx' hm0)
  have HL := hid (fun W a1 va vp vl vc (h : MIn mb c1 a1 W) (h1 : a1 ≤ 20000) (hv : TIn W (Bt w (w.heap.size + 1) S) V ⟨va, vp, vl, vc⟩) => list_row mb c1 a1 ({ data := #[116, 104, 117, 110, 107] } : ByteArray) (by decide) (by decide) [⟨va, vp, vl, vc⟩] 1 1 rfl (by decide) (by decide) [V] rfl (Bt w (w.heap.size + 1) S) HO.out W h h1 #[.string va, .slice vp vl vc] rfl (parts_one hv))
  have j0 : (0 : Int) ≤ 0 ∧ (0 : Int) < 2 := by decide
  have j1 : (0 : Int) ≤ 1 ∧ (1 : Int) < 2 := by decide
  have hcm' : tc ≤ 9223372036854775807 := by unfold maxLen at hcm; omega
  have HG0 := hid hg0
  have HM0 := hid hm0
  have HR0 := hid hr0
  clear hS ht hM hg0 hx1 hx0 g1 g2 g3 H hx' hm0 hr0 hSb hcm hc
  go_enter Tryz.func23, Tryz.ntmps23
  go_wp2_with (first
    | (have _ := HM2; go_at_call 47; refine (HL.out w2 a2 va vp vl vc HM2.out (by have := HA2.out; omega) HT2.out).mono ?_; rintro e w3 ⟨⟨xa, xp, xl, xc⟩, a3, rfl, hg3, ha3, hm3, ht3⟩; have hgr := (World.grownBy_alloc w2 (.cells #[.string va, .slice vp vl vc] 48) (some mb)).trans hg3; have hr3 := block_grown HR2.out hgr (by simp; omega); obtain ⟨k1, k2, k3, k4⟩ := cells_of_pair hr3; have hz3 := HG2.out.size; have HG3 := hid (HG2.out.trans hgr); have HA3 := hid ha3; have HM3 := hid hm3; have HT3 := hid (ht3.aft (r := w.heap.size + 1) (w := w) (by simp at hz3 ⊢; omega) (by simp at hz3 ⊢; omega)); clear hg3 ha3 hm3 ht3 hr3 hgr hz3)
    | (go_at_call 43; refine (HMU.out _ HM0.out).mono ?_; rintro e w9 ⟨rfl, rfl⟩)
    | (go_at_call 23; refine (HD.out).mono ?_; rintro e w2 ⟨⟨va, vp, vl, vc⟩, a2, rfl, hg2, ha2, hm2, ht2⟩; have HR2 := hid (block_grown HR0.out hg2 (by simp; omega)); have HG2 := hid hg2; have HA2 := hid ha2; have HM2 := hid hm2; have HT2 := hid (ht2.aft (r := w.heap.size + 1) (w := w) (by simp) (by simp; omega)); clear hg2 ha2 hm2 ht2))
  refine bodyPost_ret (v := .agg #[.string xa, .slice xp xl xc]) (by simp [results, Tryz.results23, go_sem, k1, k2]) rfl ?_
  exact LPost.res HT3.out (HG0.out.trans HG3.out) HM3.out (by have := HA2.out; have := HA3.out; omega) (by omega) hlt
end Go.Proofs.YtagifgekhboinaaGreatDoor

namespace Go.Proofs.YtagifgekhboinaaGreatDoor
open Go.RowKit

theorem wrapM_pair (m : Nat) (h : m ≤ 5000) : IntKind.i64.wrap (m : Int) = m := IntWalk.i64_in _ (by omega)
set_option maxRecDepth 100000 in
set_option maxHeartbeats 4000000 in
theorem l6dDefine_pair (x y : Ty) (k yn mb c c1 c2 a m1 m2 : Nat) (A B : Tree) (S : Nat → Prop) (hS : Own mb S) (ta : ByteArray) (tp : Option Addr) (tl tc : Nat) (w : World) (ht : TIn w S (Ty.pair x y).tree ⟨ta, tp, tl, tc⟩) (hM : MIn mb c a w) (ha : a + m1 + m2 ≤ 11000) (hc : c ≤ 900) (hwf : y.wf = true) (hy : y.cnt = some yn) (hk : k ≤ 5000)
    (H1 : ∀ (S : Nat → Prop) (h : Hd) W, Own mb S → TIn W S x.tree h → MIn mb c a W → Calls Tryz.prog 23 #[.pointer (some ⟨mb, 0, none⟩), .agg #[.string h.a, .slice h.p h.l h.c], .int .i64 ((k / yn : Nat) : Int)] W (LPost mb c1 a m1 S A W))
    (H2 : ∀ (S : Nat → Prop) (h : Hd) W a', Own mb S → TIn W S y.tree h → MIn mb c1 a' W → a' ≤ a + m1 → Calls Tryz.prog 23 #[.pointer (some ⟨mb, 0, none⟩), .agg #[.string h.a, .slice h.p h.l h.c], .int .i64 ((k % yn : Nat) : Int)] W (LPost mb c2 a' m2 S B W)) :
    Calls Tryz.prog 23 #[.pointer (some ⟨mb, 0, none⟩), .agg #[.string ta, .slice tp tl tc], .int .i64 (k : Int)] w (LPost mb c2 a (2 + m1 + m2) S (.node [.atom wPair, A, B]) w) := by
  have hlt := hM.lt
  obtain ⟨tb, b0, b1, b2, q0, q1, q2, l0, l1, l2, c0, cc1, cc2, rfl, rfl, rfl, hc3, hcm, hSb, g1, g2, g3, g4, g5, hx0, hx1, hx2⟩ := node_three (p0 := .atom ⟨#[42]⟩) (p1 := x.tree) (p2 := y.tree) ht
  obtain ⟨rfl, rfl, rfl, rfl⟩ := atom_text hx0
  have hbm : tb ≠ mb := hS tb hSb
  have htl : tb < w.heap.size := World.block_lt_of_cell? w _ g2
  have hr := cnt_range y yn hy
  have HO := hid (hS.bt hlt (w.heap.size + 1))
  have hg0 : w.grownBy ((w.alloc (.cells #[.string ({ data := #[] } : ByteArray), .slice (some ⟨tb, 0, none⟩) 3 tc] 48)).alloc (.cells #[.string ({ data := #[] } : ByteArray), .slice none 0 0] 48)) (some mb) := (World.grownBy_alloc w (.cells #[.string ({ data := #[] } : ByteArray), .slice (some ⟨tb, 0, none⟩) 3 tc] 48) (some mb)).trans (World.grownBy_alloc (w.alloc (.cells #[.string ({ data := #[] } : ByteArray), .slice (some ⟨tb, 0, none⟩) 3 tc] 48)) (.cells #[.string ({ data := #[] } : ByteArray), .slice none 0 0] 48) (some mb))
  have HX0 := hid (show TIn ((w.alloc (.cells #[.string ({ data := #[] } : ByteArray), .slice (some ⟨tb, 0, none⟩) 3 tc] 48)).alloc (.cells #[.string ({ data := #[] } : ByteArray), .slice none 0 0] 48)) (Bt w (w.heap.size + 1) S) x.tree ⟨b1, q1, l1, cc1⟩ from hx1.enter hg0 hS)
  have HY0 := hid (show TIn ((w.alloc (.cells #[.string ({ data := #[] } : ByteArray), .slice (some ⟨tb, 0, none⟩) 3 tc] 48)).alloc (.cells #[.string ({ data := #[] } : ByteArray), .slice none 0 0] 48)) (Bt w (w.heap.size + 1) S) y.tree ⟨b2, q2, l2, cc2⟩ from hx2.enter hg0 hS)
  have HM0 := hid (show MIn mb c a ((w.alloc (.cells #[.string ({ data := #[] } : ByteArray), .slice (some ⟨tb, 0, none⟩) 3 tc] 48)).alloc (.cells #[.string ({ data := #[] } : ByteArray), .slice none 0 0] 48)) from hM.below (((Below.refl _ _).alloc (Nat.le_refl _) _).alloc (by simp) _))
  have KB := hid (fun W (h : ((w.alloc (.cells #[.string ({ data := #[] } : ByteArray), .slice (some ⟨tb, 0, none⟩) 3 tc] 48)).alloc (.cells #[.string ({ data := #[] } : ByteArray), .slice none 0 0] 48)).grownBy W (some mb)) => (show (W.cell? ⟨w.heap.size, 0, none⟩ = some (.string ({ data := #[] } : ByteArray)) ∧ W.cell? ⟨w.heap.size, 1, none⟩ = some (.slice (some ⟨tb, 0, none⟩) 3 tc) ∧ W.cell? ⟨tb, 0, none⟩ = some (.string (⟨#[42]⟩ : ByteArray)) ∧ W.cell? ⟨tb, 2, none⟩ = some (.string b1) ∧ W.cell? ⟨tb, 3, none⟩ = some (.slice q1 l1 cc1) ∧ W.cell? ⟨tb, 4, none⟩ = some (.string b2) ∧ W.cell? ⟨tb, 5, none⟩ = some (.slice q2 l2 cc2)) ∧ W.heap[w.heap.size + 1]? = some (.cells #[.string ({ data := #[] } : ByteArray), .slice none 0 0] 48) ∧ w.grownBy W (some mb) ∧ w.heap.size + 2 ≤ W.heap.size from by
    have h1 := block_grown (block_grown (heap_new w (.cells #[.string ({ data := #[] } : ByteArray), .slice (some ⟨tb, 0, none⟩) 3 tc] 48) _ rfl) (World.grownBy_alloc _ (.cells #[.string ({ data := #[] } : ByteArray), .slice none 0 0] 48) none) (by simp)) h (by simp; omega)
    have h2 := block_grown (heap_new (w.alloc (.cells #[.string ({ data := #[] } : ByteArray), .slice (some ⟨tb, 0, none⟩) 3 tc] 48)) (.cells #[.string ({ data := #[] } : ByteArray), .slice none 0 0] 48) (w.heap.size + 1) (by simp)) h (by simp; omega)
    have hsz := h.size
    simp at hsz
    have hg := hg0.trans h
    exact ⟨⟨Trn.cell h1 rfl, Trn.cell h1 rfl, cell_keptM g1 hg hbm, cell_keptM g2 hg hbm, cell_keptM g3 hg hbm, cell_keptM g4 hg hbm, cell_keptM g5 hg hbm⟩, h2, hg, by omega⟩))
  have HMU := hid (fun W (h : MIn mb c a W) => l6dMuch_any mb c a hc (by omega) W h)
  have HC := hid (fun W (h : TIn W (Bt w (w.heap.size + 1) S) y.tree ⟨b2, q2, l2, cc2⟩) => (show Calls Tryz.prog 21 #[.agg #[.string b2, .slice q2 l2 cc2]] W fun e w' => e = .returned (.int .i64 (yn : Int)) ∧ Below W.heap.size W w' from by have := l1Count_any h y (tree_ty y hwf) W (Kept.refl _) (Nat.le_refl _); rw [hy] at this; exact this))
  have n1 := wrap_quot k yn hk
  have n2 := wrap_quot_e k yn hk
  have n3 := quot_t k yn
  have n4 := rest_t k yn
  have n5 := rest_e k yn
  have hy0 : (yn : Int) ≠ 0 := by omega
  have hy1 : yn ≠ 0 := by omega
  have hy3 : ((yn : Int) == 0) = false := by simp; omega
  have hq8 := Nat.div_le_self k yn
  have hq9 := Nat.mod_lt k (show 0 < yn by omega)
  have HH1 := hid H1
  have HH2 := hid H2
  obtain ⟨q, hqq⟩ : ∃ q, k / yn = q := ⟨_, rfl⟩
  obtain ⟨r, hrr⟩ : ∃ r, k % yn = r := ⟨_, rfl⟩
  rw [hqq] at HH1 n1 n2 n3 hq8
  rw [hrr] at HH2 n4 n5 hq9
  have n7 : IntKind.i64.wrap (r : Int) = r := wrapM_pair r (by omega)
  have n8 : IntKind.i64.wrap (q : Int) = q := wrapM_pair q (by omega)
  have HL := hid (fun W a1 va vp vl vc ya yp yl yc (h : MIn mb c2 a1 W) (h1 : a1 ≤ 20000) (hv : TIn W (Bt w (w.heap.size + 1) S) A ⟨va, vp, vl, vc⟩) (hy : TIn W (Bt w (w.heap.size + 1) S) B ⟨ya, yp, yl, yc⟩) => list_row mb c2 a1 ({ data := #[112, 97, 105, 114] } : ByteArray) (by decide) (by decide) [⟨va, vp, vl, vc⟩, ⟨ya, yp, yl, yc⟩] 2 2 rfl (by decide) (by decide) [A, B] rfl (Bt w (w.heap.size + 1) S) HO.out W h h1 #[.string va, .slice vp vl vc, .string ya, .slice yp yl yc] rfl (parts_two hv hy))
  have j0 : (0 : Int) ≤ 0 ∧ (0 : Int) < 3 := by decide
  have j1 : (0 : Int) ≤ 1 ∧ (1 : Int) < 3 := by decide
  have j2 : (0 : Int) ≤ 2 ∧ (2 : Int) < 3 := by decide
  have hcm' : tc ≤ 9223372036854775807 := by unfold maxLen at hcm; omega
  obtain ⟨d1, d2, d3, d4, d5, d6, d7⟩ := (KB.out _ (World.grownBy.refl _ _)).1
  clear hS ht hM hg0 hx0 hx1 hx2 g1 g2 g3 g4 g5 H1 H2 hwf hy hqq hrr hSb hcm hk hq8 hq9 hc
  go_enter Tryz.func23, Tryz.ntmps23
  go_wp2_with (first
    | (go_at_call 21; refine (HC.out _ HY0.out).mono ?_; rintro e w1 ⟨rfl, hb1⟩; have hg1 := grown_any hb1 (some mb); obtain ⟨⟨e11, e12, e13, e14, e15, e16, e17⟩, -, -, hz1⟩ := KB.out w1 hg1; have HG1 := hid hg1; have HN1 := hid hz1; have HM1 := hid (HM0.out.below hb1); have HX1 := hid (HX0.out.keepM hg1 HO.out); have HY1 := hid (HY0.out.keepM hg1 HO.out); clear hb1 hg1 hz1)
    | (go_at_call 43; refine (HMU.out _ HM0.out).mono ?_; rintro e w9 ⟨rfl, rfl⟩))
  have HM1A := hid (HM1.out.below (((Below.refl w1.heap.size w1).alloc (Nat.le_refl _) (.cells #[.string ({ data := #[] } : ByteArray), .slice none 0 0] 48)).drew))
  have HM1D := hid (HM1.out.below ((Below.refl w1.heap.size w1).drew))
  have hkA := (KB.out _ (HG1.out.trans (World.grownBy_alloc w1 (.cells #[.string ({ data := #[] } : ByteArray), .slice none 0 0] 48) (some mb)))).1
  obtain ⟨g1, g2, g3, g4, g5, g6, g7⟩ := hkA
  have HX1D := hid (show TIn w1.drew (Bt w (w.heap.size + 1) S) x.tree ⟨b1, q1, l1, cc1⟩ from HX1.out.keepM (grown_any ((Below.refl _ _).drew) (some mb)) HO.out)
  have HX1A := hid (show TIn (w1.alloc (.cells #[.string ({ data := #[] } : ByteArray), .slice none 0 0] 48)).drew (fun j => Bt w (w.heap.size + 1) S j ∧ j ≠ w1.heap.size) x.tree ⟨b1, q1, l1, cc1⟩ from HX1.out.keep (fun k _ hk => heap_alloc_old w1 _ hk) (fun k hk hl => ⟨hk, by omega⟩))
  have HDD := hid (HH1.out (Bt w (w.heap.size + 1) S) ⟨b1, q1, l1, cc1⟩ w1.drew HO.out HX1D.out HM1D.out)
  have HDA := hid (HH1.out (fun j => Bt w (w.heap.size + 1) S j ∧ j ≠ w1.heap.size) ⟨b1, q1, l1, cc1⟩ (w1.alloc (.cells #[.string ({ data := #[] } : ByteArray), .slice none 0 0] 48)).drew (fun j hj => HO.out j hj.1) HX1A.out HM1A.out)
  go_region_held3 (fun W => W.cell? ⟨w.heap.size, 0, none⟩ = some (.string ({ data := #[] } : ByteArray)) ∧ W.cell? ⟨w.heap.size, 1, none⟩ = some (.slice (some ⟨tb, 0, none⟩) 3 tc) ∧ W.cell? ⟨tb, 0, none⟩ = some (.string (⟨#[42]⟩ : ByteArray)) ∧ W.cell? ⟨tb, 2, none⟩ = some (.string b1) ∧ W.cell? ⟨tb, 3, none⟩ = some (.slice q1 l1 cc1) ∧ W.cell? ⟨tb, 4, none⟩ = some (.string b2) ∧ W.cell? ⟨tb, 5, none⟩ = some (.slice q2 l2 cc2))
    (first | exact ⟨e11, e12, e13, e14, e15, e16, e17⟩ | exact ⟨g1, g2, g3, g4, g5, g6, g7⟩ | exact ⟨e31, e32, e33, e34, e35, e36, e37⟩ | exact ⟨e21, e22, e23, e24, e25, e26, e27⟩ | exact ⟨i1, i2, i3, i4, i5, i6, i7⟩)
    (first
      | (go_at_call 23; refine (HDD.out).mono ?_; rintro e w2 ⟨⟨va, vp, vl, vc⟩, a2, rfl, hg2, ha2, hm2, ht2⟩; obtain ⟨hg12, hg1f, hmf, hbx⟩ := bx_behind (by have := HN1.out; omega) (by have := HN1.out; omega) hg2 hm2 ht2; obtain ⟨⟨e21, e22, e23, e24, e25, e26, e27⟩, -, -, -⟩ := KB.out w2 (HG1.out.trans hg12); obtain ⟨⟨e31, e32, e33, e34, e35, e36, e37⟩, -, -, -⟩ := KB.out _ (HG1.out.trans hg1f); obtain ⟨⟨i1, i2, i3, i4, i5, i6, i7⟩, -, -, -⟩ := KB.out _ ((HG1.out.trans hg12).trans (World.grownBy_alloc w2 (.cells #[.string ({ data := #[] } : ByteArray), .slice none 0 0] 48) (some mb))); have HGF := hid (HG1.out.trans hg1f); have HMF := hid hmf; have HBX := hid hbx; have HA2 := hid ha2; have HYF := hid (HY1.out.keepM hg1f HO.out); clear hg2 hm2 ht2 hg12 hg1f hmf hbx ha2)
      | (go_at_call 23; refine (HDA.out).mono ?_; rintro e w2 ⟨⟨va, vp, vl, vc⟩, a2, rfl, hg2, ha2, hm2, ht2⟩; obtain ⟨⟨k1, k2, k3, k4⟩, hg12, hg1f, hmf, hbx⟩ := bx_before (by have := HN1.out; omega) (by have := HN1.out; omega) hlt hg2 hm2 ht2; obtain ⟨⟨e21, e22, e23, e24, e25, e26, e27⟩, -, -, -⟩ := KB.out w2 (HG1.out.trans hg12); obtain ⟨⟨e31, e32, e33, e34, e35, e36, e37⟩, -, -, -⟩ := KB.out _ (HG1.out.trans hg1f); have HGF := hid (HG1.out.trans hg1f); have HMF := hid hmf; have HBX := hid hbx; have HA2 := hid ha2; have HYF := hid (HY1.out.keepM hg1f HO.out); clear hg2 hm2 ht2 hg12 hg1f hmf hbx ha2))
  · obtain ⟨Wf, hWf⟩ : ∃ Wf, w2.alloc (.cells #[.string va, .slice vp vl vc] 48) = Wf := ⟨_, rfl⟩
    obtain ⟨vb, hvb⟩ : ∃ vb, w2.heap.size = vb := ⟨_, rfl⟩
    rw [hWf] at HGF HMF HBX HYF ⊢
    rw [hvb] at HBX ⊢
    clear e11 e12 e13 e14 e15 e16 e17 e21 e22 e23 e24 e25 e26 e27 e31 e32 e33 e34 e35 e36 e37 g1 g2 g3 g4 g5 g6 g7 i1 i2 i3 i4 i5 i6 i7 d1 d2 d3 d4 d5 d6 d7 hWf hvb HX1A HX1D HM1A HM1D HDA HDD HH1 HC HX1 HY1 HX0 HY0
    go_wp2_with fail
    obtain ⟨v1, v2⟩ := HBX.out.cells
    obtain ⟨⟨m11, m12, m13, m14, m15, m16, m17⟩, -, -, hzf⟩ := KB.out Wf HGF.out
    have HYD := hid (HYF.out.keepM (grown_any ((Below.refl Wf.heap.size Wf).drew) (some mb)) HO.out)
    have HMD := hid (HMF.out.below ((Below.refl Wf.heap.size Wf).drew))
    have HZF := hid hzf
    go_region_held3 (fun W => (W.cell? ⟨w.heap.size, 0, none⟩ = some (.string ({ data := #[] } : ByteArray)) ∧ W.cell? ⟨w.heap.size, 1, none⟩ = some (.slice (some ⟨tb, 0, none⟩) 3 tc) ∧ W.cell? ⟨tb, 0, none⟩ = some (.string (⟨#[42]⟩ : ByteArray)) ∧ W.cell? ⟨tb, 2, none⟩ = some (.string b1) ∧ W.cell? ⟨tb, 3, none⟩ = some (.slice q1 l1 cc1) ∧ W.cell? ⟨tb, 4, none⟩ = some (.string b2) ∧ W.cell? ⟨tb, 5, none⟩ = some (.slice q2 l2 cc2)) ∧ W.cell? ⟨vb, 0, none⟩ = some (.string va) ∧ W.cell? ⟨vb, 1, none⟩ = some (.slice vp vl vc))
      (first | exact ⟨⟨m11, m12, m13, m14, m15, m16, m17⟩, v1, v2⟩ | exact ⟨⟨m51, m52, m53, m54, m55, m56, m57⟩, u51, u52⟩ | exact ⟨⟨m41, m42, m43, m44, m45, m46, m47⟩, u41, u42⟩ | exact ⟨⟨m31, m32, m33, m34, m35, m36, m37⟩, u31, u32⟩ | exact ⟨⟨m21, m22, m23, m24, m25, m26, m27⟩, u21, u22⟩)
      (first
        | (have _ := HM3; go_at_call 47; refine (HL.out w3 a3 va vp vl vc ya yp yl yc HM3.out (by have := HA2.out; have := HA3.out; omega) HBX3.out.2.1 HY3.out).mono ?_; rintro e w4 ⟨⟨xa, xp, xl, xc⟩, a4, rfl, hg4, ha4, hm4, ht4⟩; have hga := (World.grownBy_alloc w3 (.cells #[.string va, .slice vp vl vc, .string ya, .slice yp yl yc] 48) (some mb)).trans hg4; have hg04 := HG3.out.trans hga; obtain ⟨⟨m41, m42, m43, m44, m45, m46, m47⟩, hr4, hw4, hz4⟩ := KB.out w4 hg04; obtain ⟨k1, k2, k3, k4⟩ := cells_of_pair hr4; have hgp := grown_pair w4 (w.heap.size + 1) (.string xa) (.slice xp xl xc); have hbx4 := HBX3.out.keepM hga HO.out hlt; obtain ⟨u41, u42⟩ := hbx4.cells; have hvr := hbx4.2.2.2; have m51 := cell_keptM m41 hgp (by omega); have m52 := cell_keptM m42 hgp (by omega); have m53 := cell_keptM m43 hgp (by omega); have m54 := cell_keptM m44 hgp (by omega); have m55 := cell_keptM m45 hgp (by omega); have m56 := cell_keptM m46 hgp (by omega); have m57 := cell_keptM m47 hgp (by omega); have u51 := cell_keptM u41 hgp hvr; have u52 := cell_keptM u42 hgp hvr; have HT4 := hid (ht4.aft (r := w.heap.size + 1) (w := w) (by have := HZ3.out; simp; omega) (by have := HZ3.out; simp; omega)); have HW4 := hid hw4; have HR4 := hid hr4; have HM4 := hid hm4; have HA4 := hid ha4; clear hg4 ha4 hm4 ht4 hga hg04 hr4 hw4 hz4 hgp hbx4 hvr)
        | (go_at_call 23; refine (HH2.out (Bt w (w.heap.size + 1) S) ⟨b2, q2, l2, cc2⟩ Wf.drew a2 HO.out HYD.out HMD.out HA2.out).mono ?_; rintro e w3 ⟨⟨ya, yp, yl, yc⟩, a3, rfl, hg3, ha3, hm3, ht3⟩; have hgd := (grown_any ((Below.refl Wf.heap.size Wf).drew) (some mb)).trans hg3; have hg03 := HGF.out.trans hgd; obtain ⟨⟨m21, m22, m23, m24, m25, m26, m27⟩, -, -, hz3⟩ := KB.out w3 hg03; obtain ⟨⟨m31, m32, m33, m34, m35, m36, m37⟩, -, -, -⟩ := KB.out _ (hg03.trans (World.grownBy_alloc w3 (.cells #[.string va, .slice vp vl vc, .string ya, .slice yp yl yc] 48) (some mb))); have hbx3 := HBX.out.keepM hgd HO.out hlt; obtain ⟨u21, u22⟩ := hbx3.cells; obtain ⟨u31, u32⟩ := (hbx3.keepM (World.grownBy_alloc w3 (.cells #[.string va, .slice vp vl vc, .string ya, .slice yp yl yc] 48) (some mb)) HO.out hlt).cells; have HBX3 := hid hbx3; have HG3 := hid hg03; have HZ3 := hid hz3; have HM3 := hid hm3; have HA3 := hid ha3; have HY3 := hid (ht3.aft (r := w.heap.size + 1) (w := w) (by show _ < Wf.heap.size; have := HZF.out; omega) (by show _ ≤ Wf.heap.size; have := HZF.out; omega)); clear hgd hg3 ha3 hm3 ht3 hg03 hz3 hbx3))
    go_wp2_with fail
    have hx := cells_of_pair (set_pair (set_pair HR4.out (.string xa)).1 (.slice xp xl xc)).2
    refine bodyPost_ret (v := .agg #[.string xa, .slice xp xl xc]) (by simp [results, Tryz.results23, go_sem, hx.1, hx.2.1]) rfl ?_
    exact LPost.res HT4.out HW4.out HM4.out (by have := HA2.out; have := HA3.out; have := HA4.out; omega) (by omega) hlt
  · obtain ⟨Wf, hWf⟩ : ∃ Wf, ((w2.setCell ⟨w1.heap.size, 0, none⟩ (.string va)).setCell ⟨w1.heap.size, 1, none⟩ (.slice vp vl vc)) = Wf := ⟨_, rfl⟩
    obtain ⟨vb, hvb⟩ : ∃ vb, w1.heap.size = vb := ⟨_, rfl⟩
    rw [hWf] at HGF HMF HBX HYF ⊢
    rw [hvb] at HBX ⊢
    clear e11 e12 e13 e14 e15 e16 e17 e21 e22 e23 e24 e25 e26 e27 e31 e32 e33 e34 e35 e36 e37 g1 g2 g3 g4 g5 g6 g7 d1 d2 d3 d4 d5 d6 d7 k1 k2 k3 k4 hWf hvb HX1A HX1D HM1A HM1D HDA HDD HH1 HC HX1 HY1 HX0 HY0
    go_wp2_with fail
    obtain ⟨v1, v2⟩ := HBX.out.cells
    obtain ⟨⟨m11, m12, m13, m14, m15, m16, m17⟩, -, -, hzf⟩ := KB.out Wf HGF.out
    have HYD := hid (HYF.out.keepM (grown_any ((Below.refl Wf.heap.size Wf).drew) (some mb)) HO.out)
    have HMD := hid (HMF.out.below ((Below.refl Wf.heap.size Wf).drew))
    have HZF := hid hzf
    go_region_held3 (fun W => (W.cell? ⟨w.heap.size, 0, none⟩ = some (.string ({ data := #[] } : ByteArray)) ∧ W.cell? ⟨w.heap.size, 1, none⟩ = some (.slice (some ⟨tb, 0, none⟩) 3 tc) ∧ W.cell? ⟨tb, 0, none⟩ = some (.string (⟨#[42]⟩ : ByteArray)) ∧ W.cell? ⟨tb, 2, none⟩ = some (.string b1) ∧ W.cell? ⟨tb, 3, none⟩ = some (.slice q1 l1 cc1) ∧ W.cell? ⟨tb, 4, none⟩ = some (.string b2) ∧ W.cell? ⟨tb, 5, none⟩ = some (.slice q2 l2 cc2)) ∧ W.cell? ⟨vb, 0, none⟩ = some (.string va) ∧ W.cell? ⟨vb, 1, none⟩ = some (.slice vp vl vc))
      (first | exact ⟨⟨m11, m12, m13, m14, m15, m16, m17⟩, v1, v2⟩ | exact ⟨⟨m51, m52, m53, m54, m55, m56, m57⟩, u51, u52⟩ | exact ⟨⟨m41, m42, m43, m44, m45, m46, m47⟩, u41, u42⟩ | exact ⟨⟨m31, m32, m33, m34, m35, m36, m37⟩, u31, u32⟩ | exact ⟨⟨m21, m22, m23, m24, m25, m26, m27⟩, u21, u22⟩)
      (first
        | (have _ := HM3; go_at_call 47; refine (HL.out w3 a3 va vp vl vc ya yp yl yc HM3.out (by have := HA2.out; have := HA3.out; omega) HBX3.out.2.1 HY3.out).mono ?_; rintro e w4 ⟨⟨xa, xp, xl, xc⟩, a4, rfl, hg4, ha4, hm4, ht4⟩; have hga := (World.grownBy_alloc w3 (.cells #[.string va, .slice vp vl vc, .string ya, .slice yp yl yc] 48) (some mb)).trans hg4; have hg04 := HG3.out.trans hga; obtain ⟨⟨m41, m42, m43, m44, m45, m46, m47⟩, hr4, hw4, hz4⟩ := KB.out w4 hg04; obtain ⟨k1, k2, k3, k4⟩ := cells_of_pair hr4; have hgp := grown_pair w4 (w.heap.size + 1) (.string xa) (.slice xp xl xc); have hbx4 := HBX3.out.keepM hga HO.out hlt; obtain ⟨u41, u42⟩ := hbx4.cells; have hvr := hbx4.2.2.2; have m51 := cell_keptM m41 hgp (by omega); have m52 := cell_keptM m42 hgp (by omega); have m53 := cell_keptM m43 hgp (by omega); have m54 := cell_keptM m44 hgp (by omega); have m55 := cell_keptM m45 hgp (by omega); have m56 := cell_keptM m46 hgp (by omega); have m57 := cell_keptM m47 hgp (by omega); have u51 := cell_keptM u41 hgp hvr; have u52 := cell_keptM u42 hgp hvr; have HT4 := hid (ht4.aft (r := w.heap.size + 1) (w := w) (by have := HZ3.out; simp; omega) (by have := HZ3.out; simp; omega)); have HW4 := hid hw4; have HR4 := hid hr4; have HM4 := hid hm4; have HA4 := hid ha4; clear hg4 ha4 hm4 ht4 hga hg04 hr4 hw4 hz4 hgp hbx4 hvr)
        | (go_at_call 23; refine (HH2.out (Bt w (w.heap.size + 1) S) ⟨b2, q2, l2, cc2⟩ Wf.drew a2 HO.out HYD.out HMD.out HA2.out).mono ?_; rintro e w3 ⟨⟨ya, yp, yl, yc⟩, a3, rfl, hg3, ha3, hm3, ht3⟩; have hgd := (grown_any ((Below.refl Wf.heap.size Wf).drew) (some mb)).trans hg3; have hg03 := HGF.out.trans hgd; obtain ⟨⟨m21, m22, m23, m24, m25, m26, m27⟩, -, -, hz3⟩ := KB.out w3 hg03; obtain ⟨⟨m31, m32, m33, m34, m35, m36, m37⟩, -, -, -⟩ := KB.out _ (hg03.trans (World.grownBy_alloc w3 (.cells #[.string va, .slice vp vl vc, .string ya, .slice yp yl yc] 48) (some mb))); have hbx3 := HBX.out.keepM hgd HO.out hlt; obtain ⟨u21, u22⟩ := hbx3.cells; obtain ⟨u31, u32⟩ := (hbx3.keepM (World.grownBy_alloc w3 (.cells #[.string va, .slice vp vl vc, .string ya, .slice yp yl yc] 48) (some mb)) HO.out hlt).cells; have HBX3 := hid hbx3; have HG3 := hid hg03; have HZ3 := hid hz3; have HM3 := hid hm3; have HA3 := hid ha3; have HY3 := hid (ht3.aft (r := w.heap.size + 1) (w := w) (by show _ < Wf.heap.size; have := HZF.out; omega) (by show _ ≤ Wf.heap.size; have := HZF.out; omega)); clear hgd hg3 ha3 hm3 ht3 hg03 hz3 hbx3))
    go_wp2_with fail
    have hx := cells_of_pair (set_pair (set_pair HR4.out (.string xa)).1 (.slice xp xl xc)).2
    refine bodyPost_ret (v := .agg #[.string xa, .slice xp xl xc]) (by simp [results, Tryz.results23, go_sem, hx.1, hx.2.1]) rfl ?_
    exact LPost.res HT4.out HW4.out HM4.out (by have := HA2.out; have := HA3.out; have := HA4.out; omega) (by omega) hlt
end Go.Proofs.YtagifgekhboinaaGreatDoor

namespace Go.Proofs.YtagifgekhboinaaGreatDoor
open Go.RowKit

theorem wrapM_choice (m : Nat) (h : m ≤ 5000) : IntKind.i64.wrap (m : Int) = m := IntWalk.i64_in _ (by omega)
set_option maxRecDepth 100000 in
set_option maxHeartbeats 4000000 in
theorem l6dDefine_choice (x y : Ty) (k yn mb c c1 c2 a m1 m2 : Nat) (A B : Tree) (S : Nat → Prop) (hS : Own mb S) (ta : ByteArray) (tp : Option Addr) (tl tc : Nat) (w : World) (ht : TIn w S (Ty.choice x y).tree ⟨ta, tp, tl, tc⟩) (hM : MIn mb c a w) (ha : a + m1 + m2 ≤ 11000) (hc : c ≤ 900) (hwf : y.wf = true) (hy : y.cnt = some yn) (hk : k ≤ 5000)
    (H1 : ∀ (S : Nat → Prop) (h : Hd) W, Own mb S → TIn W S x.tree h → MIn mb c a W → Calls Tryz.prog 23 #[.pointer (some ⟨mb, 0, none⟩), .agg #[.string h.a, .slice h.p h.l h.c], .int .i64 ((k / yn : Nat) : Int)] W (LPost mb c1 a m1 S A W))
    (H2 : ∀ (S : Nat → Prop) (h : Hd) W a', Own mb S → TIn W S y.tree h → MIn mb c1 a' W → a' ≤ a + m1 → Calls Tryz.prog 23 #[.pointer (some ⟨mb, 0, none⟩), .agg #[.string h.a, .slice h.p h.l h.c], .int .i64 ((k % yn : Nat) : Int)] W (LPost mb c2 a' m2 S B W)) :
    Calls Tryz.prog 23 #[.pointer (some ⟨mb, 0, none⟩), .agg #[.string ta, .slice tp tl tc], .int .i64 (k : Int)] w (LPost mb c2 a (2 + m1 + m2) S (.node [.atom wBoth, A, B]) w) := by
  have hlt := hM.lt
  obtain ⟨tb, b0, b1, b2, q0, q1, q2, l0, l1, l2, c0, cc1, cc2, rfl, rfl, rfl, hc3, hcm, hSb, g1, g2, g3, g4, g5, hx0, hx1, hx2⟩ := node_three (p0 := .atom ⟨#[38]⟩) (p1 := x.tree) (p2 := y.tree) ht
  obtain ⟨rfl, rfl, rfl, rfl⟩ := atom_text hx0
  have hbm : tb ≠ mb := hS tb hSb
  have htl : tb < w.heap.size := World.block_lt_of_cell? w _ g2
  have hr := cnt_range y yn hy
  have HO := hid (hS.bt hlt (w.heap.size + 1))
  have hg0 : w.grownBy ((w.alloc (.cells #[.string ({ data := #[] } : ByteArray), .slice (some ⟨tb, 0, none⟩) 3 tc] 48)).alloc (.cells #[.string ({ data := #[] } : ByteArray), .slice none 0 0] 48)) (some mb) := (World.grownBy_alloc w (.cells #[.string ({ data := #[] } : ByteArray), .slice (some ⟨tb, 0, none⟩) 3 tc] 48) (some mb)).trans (World.grownBy_alloc (w.alloc (.cells #[.string ({ data := #[] } : ByteArray), .slice (some ⟨tb, 0, none⟩) 3 tc] 48)) (.cells #[.string ({ data := #[] } : ByteArray), .slice none 0 0] 48) (some mb))
  have HX0 := hid (show TIn ((w.alloc (.cells #[.string ({ data := #[] } : ByteArray), .slice (some ⟨tb, 0, none⟩) 3 tc] 48)).alloc (.cells #[.string ({ data := #[] } : ByteArray), .slice none 0 0] 48)) (Bt w (w.heap.size + 1) S) x.tree ⟨b1, q1, l1, cc1⟩ from hx1.enter hg0 hS)
  have HY0 := hid (show TIn ((w.alloc (.cells #[.string ({ data := #[] } : ByteArray), .slice (some ⟨tb, 0, none⟩) 3 tc] 48)).alloc (.cells #[.string ({ data := #[] } : ByteArray), .slice none 0 0] 48)) (Bt w (w.heap.size + 1) S) y.tree ⟨b2, q2, l2, cc2⟩ from hx2.enter hg0 hS)
  have HM0 := hid (show MIn mb c a ((w.alloc (.cells #[.string ({ data := #[] } : ByteArray), .slice (some ⟨tb, 0, none⟩) 3 tc] 48)).alloc (.cells #[.string ({ data := #[] } : ByteArray), .slice none 0 0] 48)) from hM.below (((Below.refl _ _).alloc (Nat.le_refl _) _).alloc (by simp) _))
  have KB := hid (fun W (h : ((w.alloc (.cells #[.string ({ data := #[] } : ByteArray), .slice (some ⟨tb, 0, none⟩) 3 tc] 48)).alloc (.cells #[.string ({ data := #[] } : ByteArray), .slice none 0 0] 48)).grownBy W (some mb)) => (show (W.cell? ⟨w.heap.size, 0, none⟩ = some (.string ({ data := #[] } : ByteArray)) ∧ W.cell? ⟨w.heap.size, 1, none⟩ = some (.slice (some ⟨tb, 0, none⟩) 3 tc) ∧ W.cell? ⟨tb, 0, none⟩ = some (.string (⟨#[38]⟩ : ByteArray)) ∧ W.cell? ⟨tb, 2, none⟩ = some (.string b1) ∧ W.cell? ⟨tb, 3, none⟩ = some (.slice q1 l1 cc1) ∧ W.cell? ⟨tb, 4, none⟩ = some (.string b2) ∧ W.cell? ⟨tb, 5, none⟩ = some (.slice q2 l2 cc2)) ∧ W.heap[w.heap.size + 1]? = some (.cells #[.string ({ data := #[] } : ByteArray), .slice none 0 0] 48) ∧ w.grownBy W (some mb) ∧ w.heap.size + 2 ≤ W.heap.size from by
    have h1 := block_grown (block_grown (heap_new w (.cells #[.string ({ data := #[] } : ByteArray), .slice (some ⟨tb, 0, none⟩) 3 tc] 48) _ rfl) (World.grownBy_alloc _ (.cells #[.string ({ data := #[] } : ByteArray), .slice none 0 0] 48) none) (by simp)) h (by simp; omega)
    have h2 := block_grown (heap_new (w.alloc (.cells #[.string ({ data := #[] } : ByteArray), .slice (some ⟨tb, 0, none⟩) 3 tc] 48)) (.cells #[.string ({ data := #[] } : ByteArray), .slice none 0 0] 48) (w.heap.size + 1) (by simp)) h (by simp; omega)
    have hsz := h.size
    simp at hsz
    have hg := hg0.trans h
    exact ⟨⟨Trn.cell h1 rfl, Trn.cell h1 rfl, cell_keptM g1 hg hbm, cell_keptM g2 hg hbm, cell_keptM g3 hg hbm, cell_keptM g4 hg hbm, cell_keptM g5 hg hbm⟩, h2, hg, by omega⟩))
  have HMU := hid (fun W (h : MIn mb c a W) => l6dMuch_any mb c a hc (by omega) W h)
  have HC := hid (fun W (h : TIn W (Bt w (w.heap.size + 1) S) y.tree ⟨b2, q2, l2, cc2⟩) => (show Calls Tryz.prog 21 #[.agg #[.string b2, .slice q2 l2 cc2]] W fun e w' => e = .returned (.int .i64 (yn : Int)) ∧ Below W.heap.size W w' from by have := l1Count_any h y (tree_ty y hwf) W (Kept.refl _) (Nat.le_refl _); rw [hy] at this; exact this))
  have n1 := wrap_quot k yn hk
  have n2 := wrap_quot_e k yn hk
  have n3 := quot_t k yn
  have n4 := rest_t k yn
  have n5 := rest_e k yn
  have hy0 : (yn : Int) ≠ 0 := by omega
  have hy1 : yn ≠ 0 := by omega
  have hy3 : ((yn : Int) == 0) = false := by simp; omega
  have hq8 := Nat.div_le_self k yn
  have hq9 := Nat.mod_lt k (show 0 < yn by omega)
  have HH1 := hid H1
  have HH2 := hid H2
  obtain ⟨q, hqq⟩ : ∃ q, k / yn = q := ⟨_, rfl⟩
  obtain ⟨r, hrr⟩ : ∃ r, k % yn = r := ⟨_, rfl⟩
  rw [hqq] at HH1 n1 n2 n3 hq8
  rw [hrr] at HH2 n4 n5 hq9
  have n7 : IntKind.i64.wrap (r : Int) = r := wrapM_choice r (by omega)
  have n8 : IntKind.i64.wrap (q : Int) = q := wrapM_choice q (by omega)
  have HL := hid (fun W a1 va vp vl vc ya yp yl yc (h : MIn mb c2 a1 W) (h1 : a1 ≤ 20000) (hv : TIn W (Bt w (w.heap.size + 1) S) A ⟨va, vp, vl, vc⟩) (hy : TIn W (Bt w (w.heap.size + 1) S) B ⟨ya, yp, yl, yc⟩) => list_row mb c2 a1 ({ data := #[98, 111, 116, 104] } : ByteArray) (by decide) (by decide) [⟨va, vp, vl, vc⟩, ⟨ya, yp, yl, yc⟩] 2 2 rfl (by decide) (by decide) [A, B] rfl (Bt w (w.heap.size + 1) S) HO.out W h h1 #[.string va, .slice vp vl vc, .string ya, .slice yp yl yc] rfl (parts_two hv hy))
  have j0 : (0 : Int) ≤ 0 ∧ (0 : Int) < 3 := by decide
  have j1 : (0 : Int) ≤ 1 ∧ (1 : Int) < 3 := by decide
  have j2 : (0 : Int) ≤ 2 ∧ (2 : Int) < 3 := by decide
  have hcm' : tc ≤ 9223372036854775807 := by unfold maxLen at hcm; omega
  obtain ⟨d1, d2, d3, d4, d5, d6, d7⟩ := (KB.out _ (World.grownBy.refl _ _)).1
  clear hS ht hM hg0 hx0 hx1 hx2 g1 g2 g3 g4 g5 H1 H2 hwf hy hqq hrr hSb hcm hk hq8 hq9 hc
  go_enter Tryz.func23, Tryz.ntmps23
  go_wp2_with (first
    | (go_at_call 21; refine (HC.out _ HY0.out).mono ?_; rintro e w1 ⟨rfl, hb1⟩; have hg1 := grown_any hb1 (some mb); obtain ⟨⟨e11, e12, e13, e14, e15, e16, e17⟩, -, -, hz1⟩ := KB.out w1 hg1; have HG1 := hid hg1; have HN1 := hid hz1; have HM1 := hid (HM0.out.below hb1); have HX1 := hid (HX0.out.keepM hg1 HO.out); have HY1 := hid (HY0.out.keepM hg1 HO.out); clear hb1 hg1 hz1)
    | (go_at_call 43; refine (HMU.out _ HM0.out).mono ?_; rintro e w9 ⟨rfl, rfl⟩))
  have HM1A := hid (HM1.out.below (((Below.refl w1.heap.size w1).alloc (Nat.le_refl _) (.cells #[.string ({ data := #[] } : ByteArray), .slice none 0 0] 48)).drew))
  have HM1D := hid (HM1.out.below ((Below.refl w1.heap.size w1).drew))
  have hkA := (KB.out _ (HG1.out.trans (World.grownBy_alloc w1 (.cells #[.string ({ data := #[] } : ByteArray), .slice none 0 0] 48) (some mb)))).1
  obtain ⟨g1, g2, g3, g4, g5, g6, g7⟩ := hkA
  have HX1D := hid (show TIn w1.drew (Bt w (w.heap.size + 1) S) x.tree ⟨b1, q1, l1, cc1⟩ from HX1.out.keepM (grown_any ((Below.refl _ _).drew) (some mb)) HO.out)
  have HX1A := hid (show TIn (w1.alloc (.cells #[.string ({ data := #[] } : ByteArray), .slice none 0 0] 48)).drew (fun j => Bt w (w.heap.size + 1) S j ∧ j ≠ w1.heap.size) x.tree ⟨b1, q1, l1, cc1⟩ from HX1.out.keep (fun k _ hk => heap_alloc_old w1 _ hk) (fun k hk hl => ⟨hk, by omega⟩))
  have HDD := hid (HH1.out (Bt w (w.heap.size + 1) S) ⟨b1, q1, l1, cc1⟩ w1.drew HO.out HX1D.out HM1D.out)
  have HDA := hid (HH1.out (fun j => Bt w (w.heap.size + 1) S j ∧ j ≠ w1.heap.size) ⟨b1, q1, l1, cc1⟩ (w1.alloc (.cells #[.string ({ data := #[] } : ByteArray), .slice none 0 0] 48)).drew (fun j hj => HO.out j hj.1) HX1A.out HM1A.out)
  go_region_held3 (fun W => W.cell? ⟨w.heap.size, 0, none⟩ = some (.string ({ data := #[] } : ByteArray)) ∧ W.cell? ⟨w.heap.size, 1, none⟩ = some (.slice (some ⟨tb, 0, none⟩) 3 tc) ∧ W.cell? ⟨tb, 0, none⟩ = some (.string (⟨#[38]⟩ : ByteArray)) ∧ W.cell? ⟨tb, 2, none⟩ = some (.string b1) ∧ W.cell? ⟨tb, 3, none⟩ = some (.slice q1 l1 cc1) ∧ W.cell? ⟨tb, 4, none⟩ = some (.string b2) ∧ W.cell? ⟨tb, 5, none⟩ = some (.slice q2 l2 cc2))
    (first | exact ⟨e11, e12, e13, e14, e15, e16, e17⟩ | exact ⟨g1, g2, g3, g4, g5, g6, g7⟩ | exact ⟨e31, e32, e33, e34, e35, e36, e37⟩ | exact ⟨e21, e22, e23, e24, e25, e26, e27⟩ | exact ⟨i1, i2, i3, i4, i5, i6, i7⟩)
    (first
      | (go_at_call 23; refine (HDD.out).mono ?_; rintro e w2 ⟨⟨va, vp, vl, vc⟩, a2, rfl, hg2, ha2, hm2, ht2⟩; obtain ⟨hg12, hg1f, hmf, hbx⟩ := bx_behind (by have := HN1.out; omega) (by have := HN1.out; omega) hg2 hm2 ht2; obtain ⟨⟨e21, e22, e23, e24, e25, e26, e27⟩, -, -, -⟩ := KB.out w2 (HG1.out.trans hg12); obtain ⟨⟨e31, e32, e33, e34, e35, e36, e37⟩, -, -, -⟩ := KB.out _ (HG1.out.trans hg1f); obtain ⟨⟨i1, i2, i3, i4, i5, i6, i7⟩, -, -, -⟩ := KB.out _ ((HG1.out.trans hg12).trans (World.grownBy_alloc w2 (.cells #[.string ({ data := #[] } : ByteArray), .slice none 0 0] 48) (some mb))); have HGF := hid (HG1.out.trans hg1f); have HMF := hid hmf; have HBX := hid hbx; have HA2 := hid ha2; have HYF := hid (HY1.out.keepM hg1f HO.out); clear hg2 hm2 ht2 hg12 hg1f hmf hbx ha2)
      | (go_at_call 23; refine (HDA.out).mono ?_; rintro e w2 ⟨⟨va, vp, vl, vc⟩, a2, rfl, hg2, ha2, hm2, ht2⟩; obtain ⟨⟨k1, k2, k3, k4⟩, hg12, hg1f, hmf, hbx⟩ := bx_before (by have := HN1.out; omega) (by have := HN1.out; omega) hlt hg2 hm2 ht2; obtain ⟨⟨e21, e22, e23, e24, e25, e26, e27⟩, -, -, -⟩ := KB.out w2 (HG1.out.trans hg12); obtain ⟨⟨e31, e32, e33, e34, e35, e36, e37⟩, -, -, -⟩ := KB.out _ (HG1.out.trans hg1f); have HGF := hid (HG1.out.trans hg1f); have HMF := hid hmf; have HBX := hid hbx; have HA2 := hid ha2; have HYF := hid (HY1.out.keepM hg1f HO.out); clear hg2 hm2 ht2 hg12 hg1f hmf hbx ha2))
  · obtain ⟨Wf, hWf⟩ : ∃ Wf, w2.alloc (.cells #[.string va, .slice vp vl vc] 48) = Wf := ⟨_, rfl⟩
    obtain ⟨vb, hvb⟩ : ∃ vb, w2.heap.size = vb := ⟨_, rfl⟩
    rw [hWf] at HGF HMF HBX HYF ⊢
    rw [hvb] at HBX ⊢
    clear e11 e12 e13 e14 e15 e16 e17 e21 e22 e23 e24 e25 e26 e27 e31 e32 e33 e34 e35 e36 e37 g1 g2 g3 g4 g5 g6 g7 i1 i2 i3 i4 i5 i6 i7 d1 d2 d3 d4 d5 d6 d7 hWf hvb HX1A HX1D HM1A HM1D HDA HDD HH1 HC HX1 HY1 HX0 HY0
    go_wp2_with fail
    obtain ⟨v1, v2⟩ := HBX.out.cells
    obtain ⟨⟨m11, m12, m13, m14, m15, m16, m17⟩, -, -, hzf⟩ := KB.out Wf HGF.out
    have HYD := hid (HYF.out.keepM (grown_any ((Below.refl Wf.heap.size Wf).drew) (some mb)) HO.out)
    have HMD := hid (HMF.out.below ((Below.refl Wf.heap.size Wf).drew))
    have HZF := hid hzf
    go_region_held3 (fun W => (W.cell? ⟨w.heap.size, 0, none⟩ = some (.string ({ data := #[] } : ByteArray)) ∧ W.cell? ⟨w.heap.size, 1, none⟩ = some (.slice (some ⟨tb, 0, none⟩) 3 tc) ∧ W.cell? ⟨tb, 0, none⟩ = some (.string (⟨#[38]⟩ : ByteArray)) ∧ W.cell? ⟨tb, 2, none⟩ = some (.string b1) ∧ W.cell? ⟨tb, 3, none⟩ = some (.slice q1 l1 cc1) ∧ W.cell? ⟨tb, 4, none⟩ = some (.string b2) ∧ W.cell? ⟨tb, 5, none⟩ = some (.slice q2 l2 cc2)) ∧ W.cell? ⟨vb, 0, none⟩ = some (.string va) ∧ W.cell? ⟨vb, 1, none⟩ = some (.slice vp vl vc))
      (first | exact ⟨⟨m11, m12, m13, m14, m15, m16, m17⟩, v1, v2⟩ | exact ⟨⟨m51, m52, m53, m54, m55, m56, m57⟩, u51, u52⟩ | exact ⟨⟨m41, m42, m43, m44, m45, m46, m47⟩, u41, u42⟩ | exact ⟨⟨m31, m32, m33, m34, m35, m36, m37⟩, u31, u32⟩ | exact ⟨⟨m21, m22, m23, m24, m25, m26, m27⟩, u21, u22⟩)
      (first
        | (have _ := HM3; go_at_call 47; refine (HL.out w3 a3 va vp vl vc ya yp yl yc HM3.out (by have := HA2.out; have := HA3.out; omega) HBX3.out.2.1 HY3.out).mono ?_; rintro e w4 ⟨⟨xa, xp, xl, xc⟩, a4, rfl, hg4, ha4, hm4, ht4⟩; have hga := (World.grownBy_alloc w3 (.cells #[.string va, .slice vp vl vc, .string ya, .slice yp yl yc] 48) (some mb)).trans hg4; have hg04 := HG3.out.trans hga; obtain ⟨⟨m41, m42, m43, m44, m45, m46, m47⟩, hr4, hw4, hz4⟩ := KB.out w4 hg04; obtain ⟨k1, k2, k3, k4⟩ := cells_of_pair hr4; have hgp := grown_pair w4 (w.heap.size + 1) (.string xa) (.slice xp xl xc); have hbx4 := HBX3.out.keepM hga HO.out hlt; obtain ⟨u41, u42⟩ := hbx4.cells; have hvr := hbx4.2.2.2; have m51 := cell_keptM m41 hgp (by omega); have m52 := cell_keptM m42 hgp (by omega); have m53 := cell_keptM m43 hgp (by omega); have m54 := cell_keptM m44 hgp (by omega); have m55 := cell_keptM m45 hgp (by omega); have m56 := cell_keptM m46 hgp (by omega); have m57 := cell_keptM m47 hgp (by omega); have u51 := cell_keptM u41 hgp hvr; have u52 := cell_keptM u42 hgp hvr; have HT4 := hid (ht4.aft (r := w.heap.size + 1) (w := w) (by have := HZ3.out; simp; omega) (by have := HZ3.out; simp; omega)); have HW4 := hid hw4; have HR4 := hid hr4; have HM4 := hid hm4; have HA4 := hid ha4; clear hg4 ha4 hm4 ht4 hga hg04 hr4 hw4 hz4 hgp hbx4 hvr)
        | (go_at_call 23; refine (HH2.out (Bt w (w.heap.size + 1) S) ⟨b2, q2, l2, cc2⟩ Wf.drew a2 HO.out HYD.out HMD.out HA2.out).mono ?_; rintro e w3 ⟨⟨ya, yp, yl, yc⟩, a3, rfl, hg3, ha3, hm3, ht3⟩; have hgd := (grown_any ((Below.refl Wf.heap.size Wf).drew) (some mb)).trans hg3; have hg03 := HGF.out.trans hgd; obtain ⟨⟨m21, m22, m23, m24, m25, m26, m27⟩, -, -, hz3⟩ := KB.out w3 hg03; obtain ⟨⟨m31, m32, m33, m34, m35, m36, m37⟩, -, -, -⟩ := KB.out _ (hg03.trans (World.grownBy_alloc w3 (.cells #[.string va, .slice vp vl vc, .string ya, .slice yp yl yc] 48) (some mb))); have hbx3 := HBX.out.keepM hgd HO.out hlt; obtain ⟨u21, u22⟩ := hbx3.cells; obtain ⟨u31, u32⟩ := (hbx3.keepM (World.grownBy_alloc w3 (.cells #[.string va, .slice vp vl vc, .string ya, .slice yp yl yc] 48) (some mb)) HO.out hlt).cells; have HBX3 := hid hbx3; have HG3 := hid hg03; have HZ3 := hid hz3; have HM3 := hid hm3; have HA3 := hid ha3; have HY3 := hid (ht3.aft (r := w.heap.size + 1) (w := w) (by show _ < Wf.heap.size; have := HZF.out; omega) (by show _ ≤ Wf.heap.size; have := HZF.out; omega)); clear hgd hg3 ha3 hm3 ht3 hg03 hz3 hbx3))
    go_wp2_with fail
    have hx := cells_of_pair (set_pair (set_pair HR4.out (.string xa)).1 (.slice xp xl xc)).2
    refine bodyPost_ret (v := .agg #[.string xa, .slice xp xl xc]) (by simp [results, Tryz.results23, go_sem, hx.1, hx.2.1]) rfl ?_
    exact LPost.res HT4.out HW4.out HM4.out (by have := HA2.out; have := HA3.out; have := HA4.out; omega) (by omega) hlt
  · obtain ⟨Wf, hWf⟩ : ∃ Wf, ((w2.setCell ⟨w1.heap.size, 0, none⟩ (.string va)).setCell ⟨w1.heap.size, 1, none⟩ (.slice vp vl vc)) = Wf := ⟨_, rfl⟩
    obtain ⟨vb, hvb⟩ : ∃ vb, w1.heap.size = vb := ⟨_, rfl⟩
    rw [hWf] at HGF HMF HBX HYF ⊢
    rw [hvb] at HBX ⊢
    clear e11 e12 e13 e14 e15 e16 e17 e21 e22 e23 e24 e25 e26 e27 e31 e32 e33 e34 e35 e36 e37 g1 g2 g3 g4 g5 g6 g7 d1 d2 d3 d4 d5 d6 d7 k1 k2 k3 k4 hWf hvb HX1A HX1D HM1A HM1D HDA HDD HH1 HC HX1 HY1 HX0 HY0
    go_wp2_with fail
    obtain ⟨v1, v2⟩ := HBX.out.cells
    obtain ⟨⟨m11, m12, m13, m14, m15, m16, m17⟩, -, -, hzf⟩ := KB.out Wf HGF.out
    have HYD := hid (HYF.out.keepM (grown_any ((Below.refl Wf.heap.size Wf).drew) (some mb)) HO.out)
    have HMD := hid (HMF.out.below ((Below.refl Wf.heap.size Wf).drew))
    have HZF := hid hzf
    go_region_held3 (fun W => (W.cell? ⟨w.heap.size, 0, none⟩ = some (.string ({ data := #[] } : ByteArray)) ∧ W.cell? ⟨w.heap.size, 1, none⟩ = some (.slice (some ⟨tb, 0, none⟩) 3 tc) ∧ W.cell? ⟨tb, 0, none⟩ = some (.string (⟨#[38]⟩ : ByteArray)) ∧ W.cell? ⟨tb, 2, none⟩ = some (.string b1) ∧ W.cell? ⟨tb, 3, none⟩ = some (.slice q1 l1 cc1) ∧ W.cell? ⟨tb, 4, none⟩ = some (.string b2) ∧ W.cell? ⟨tb, 5, none⟩ = some (.slice q2 l2 cc2)) ∧ W.cell? ⟨vb, 0, none⟩ = some (.string va) ∧ W.cell? ⟨vb, 1, none⟩ = some (.slice vp vl vc))
      (first | exact ⟨⟨m11, m12, m13, m14, m15, m16, m17⟩, v1, v2⟩ | exact ⟨⟨m51, m52, m53, m54, m55, m56, m57⟩, u51, u52⟩ | exact ⟨⟨m41, m42, m43, m44, m45, m46, m47⟩, u41, u42⟩ | exact ⟨⟨m31, m32, m33, m34, m35, m36, m37⟩, u31, u32⟩ | exact ⟨⟨m21, m22, m23, m24, m25, m26, m27⟩, u21, u22⟩)
      (first
        | (have _ := HM3; go_at_call 47; refine (HL.out w3 a3 va vp vl vc ya yp yl yc HM3.out (by have := HA2.out; have := HA3.out; omega) HBX3.out.2.1 HY3.out).mono ?_; rintro e w4 ⟨⟨xa, xp, xl, xc⟩, a4, rfl, hg4, ha4, hm4, ht4⟩; have hga := (World.grownBy_alloc w3 (.cells #[.string va, .slice vp vl vc, .string ya, .slice yp yl yc] 48) (some mb)).trans hg4; have hg04 := HG3.out.trans hga; obtain ⟨⟨m41, m42, m43, m44, m45, m46, m47⟩, hr4, hw4, hz4⟩ := KB.out w4 hg04; obtain ⟨k1, k2, k3, k4⟩ := cells_of_pair hr4; have hgp := grown_pair w4 (w.heap.size + 1) (.string xa) (.slice xp xl xc); have hbx4 := HBX3.out.keepM hga HO.out hlt; obtain ⟨u41, u42⟩ := hbx4.cells; have hvr := hbx4.2.2.2; have m51 := cell_keptM m41 hgp (by omega); have m52 := cell_keptM m42 hgp (by omega); have m53 := cell_keptM m43 hgp (by omega); have m54 := cell_keptM m44 hgp (by omega); have m55 := cell_keptM m45 hgp (by omega); have m56 := cell_keptM m46 hgp (by omega); have m57 := cell_keptM m47 hgp (by omega); have u51 := cell_keptM u41 hgp hvr; have u52 := cell_keptM u42 hgp hvr; have HT4 := hid (ht4.aft (r := w.heap.size + 1) (w := w) (by have := HZ3.out; simp; omega) (by have := HZ3.out; simp; omega)); have HW4 := hid hw4; have HR4 := hid hr4; have HM4 := hid hm4; have HA4 := hid ha4; clear hg4 ha4 hm4 ht4 hga hg04 hr4 hw4 hz4 hgp hbx4 hvr)
        | (go_at_call 23; refine (HH2.out (Bt w (w.heap.size + 1) S) ⟨b2, q2, l2, cc2⟩ Wf.drew a2 HO.out HYD.out HMD.out HA2.out).mono ?_; rintro e w3 ⟨⟨ya, yp, yl, yc⟩, a3, rfl, hg3, ha3, hm3, ht3⟩; have hgd := (grown_any ((Below.refl Wf.heap.size Wf).drew) (some mb)).trans hg3; have hg03 := HGF.out.trans hgd; obtain ⟨⟨m21, m22, m23, m24, m25, m26, m27⟩, -, -, hz3⟩ := KB.out w3 hg03; obtain ⟨⟨m31, m32, m33, m34, m35, m36, m37⟩, -, -, -⟩ := KB.out _ (hg03.trans (World.grownBy_alloc w3 (.cells #[.string va, .slice vp vl vc, .string ya, .slice yp yl yc] 48) (some mb))); have hbx3 := HBX.out.keepM hgd HO.out hlt; obtain ⟨u21, u22⟩ := hbx3.cells; obtain ⟨u31, u32⟩ := (hbx3.keepM (World.grownBy_alloc w3 (.cells #[.string va, .slice vp vl vc, .string ya, .slice yp yl yc] 48) (some mb)) HO.out hlt).cells; have HBX3 := hid hbx3; have HG3 := hid hg03; have HZ3 := hid hz3; have HM3 := hid hm3; have HA3 := hid ha3; have HY3 := hid (ht3.aft (r := w.heap.size + 1) (w := w) (by show _ < Wf.heap.size; have := HZF.out; omega) (by show _ ≤ Wf.heap.size; have := HZF.out; omega)); clear hgd hg3 ha3 hm3 ht3 hg03 hz3 hbx3))
    go_wp2_with fail
    have hx := cells_of_pair (set_pair (set_pair HR4.out (.string xa)).1 (.slice xp xl xc)).2
    refine bodyPost_ret (v := .agg #[.string xa, .slice xp xl xc]) (by simp [results, Tryz.results23, go_sem, hx.1, hx.2.1]) rfl ?_
    exact LPost.res HT4.out HW4.out HM4.out (by have := HA2.out; have := HA3.out; have := HA4.out; omega) (by omega) hlt
end Go.Proofs.YtagifgekhboinaaGreatDoor

namespace Go.Proofs.YtagifgekhboinaaGreatDoor
open Go.RowKit

/-- A box that is laid for a tree. -/
theorem bx_new {w w2 : World} {r mb c a : Nat} {S : Nat → Prop} {V : Tree} {va : ByteArray} {vp : Option Addr} {vl vc : Nat} (hr : r < w2.heap.size) (hw : w.heap.size ≤ w2.heap.size)
    (hM : MIn mb c a w2) (ht : TIn w2 (Bt w r S) V ⟨va, vp, vl, vc⟩) :
    MIn mb c a (w2.alloc (.cells #[.string va, .slice vp vl vc] 48)) ∧ Bx w r w2.heap.size S V va vp vl vc (w2.alloc (.cells #[.string va, .slice vp vl vc] 48)) := by
  have hb := (Below.refl w2.heap.size w2).alloc (Nat.le_refl _) (.cells #[.string va, .slice vp vl vc] 48)
  exact ⟨hM.below hb, heap_new w2 _ _ rfl, ht.under hb (fun _ _ hl => hl), by omega, by omega⟩
set_option maxRecDepth 100000 in
set_option maxHeartbeats 4000000 in
theorem l6dDefine_fn (y : Ty) (k mb c c2 a m : Nat) (M : Tree) (S : Nat → Prop) (hS : Own mb S) (ta : ByteArray) (tp : Option Addr) (tl tc : Nat) (w : World) (ht : TIn w S (Ty.fn .bit y).tree ⟨ta, tp, tl, tc⟩) (hM : MIn mb c a w) (ha : a + m ≤ 11000) (hc : c < 10)
    (H : ∀ (S : Nat → Prop) (h : Hd) W a', Own mb S → TIn W S (Ty.fn .bit y).tree h → MIn mb (c + 1) a' W → a' ≤ a → Calls Tryz.prog 51 #[.pointer (some ⟨mb, 0, none⟩), .agg #[.string h.a, .slice h.p h.l h.c], .int .i64 (k : Int), .agg #[.string (nmB c), .slice none 0 0], .int .i64 0] W (LPost mb c2 a' m S M W)) :
    Calls Tryz.prog 23 #[.pointer (some ⟨mb, 0, none⟩), .agg #[.string ta, .slice tp tl tc], .int .i64 (k : Int)] w (LPost mb c2 a (m + 3) S (.node [.atom wLam, .atom (nmB c), Ty.bit.tree, M]) w) := by
  have hlt := hM.lt
  obtain ⟨tb, b0, b1, b2, q0, q1, q2, l0, l1, l2, c0, cc1, cc2, rfl, rfl, rfl, hc3, hcm, hSb, g1, g2, g3, g4, g5, hx0, hx1, hx2⟩ := node_three (p0 := .atom ⟨#[62]⟩) (p1 := Ty.bit.tree) (p2 := y.tree) ht
  obtain ⟨rfl, rfl, rfl, rfl⟩ := atom_text hx0
  have hbm : tb ≠ mb := hS tb hSb
  have htl : tb < w.heap.size := World.block_lt_of_cell? w _ g2
  have HO := hid (hS.bt hlt (w.heap.size + 1))
  have hg0 : w.grownBy ((w.alloc (.cells #[.string ({ data := #[] } : ByteArray), .slice (some ⟨tb, 0, none⟩) 3 tc] 48)).alloc (.cells #[.string ({ data := #[] } : ByteArray), .slice none 0 0] 48)) (some mb) := (World.grownBy_alloc w (.cells #[.string ({ data := #[] } : ByteArray), .slice (some ⟨tb, 0, none⟩) 3 tc] 48) (some mb)).trans (World.grownBy_alloc (w.alloc (.cells #[.string ({ data := #[] } : ByteArray), .slice (some ⟨tb, 0, none⟩) 3 tc] 48)) (.cells #[.string ({ data := #[] } : ByteArray), .slice none 0 0] 48) (some mb))
  have HT0 := hid (show TIn ((w.alloc (.cells #[.string ({ data := #[] } : ByteArray), .slice (some ⟨tb, 0, none⟩) 3 tc] 48)).alloc (.cells #[.string ({ data := #[] } : ByteArray), .slice none 0 0] 48)) (Bt w (w.heap.size + 1) S) (Ty.fn .bit y).tree ⟨({ data := #[] } : ByteArray), some ⟨tb, 0, none⟩, 3, tc⟩ from ht.enter hg0 hS)
  have HX0 := hid (show TIn ((w.alloc (.cells #[.string ({ data := #[] } : ByteArray), .slice (some ⟨tb, 0, none⟩) 3 tc] 48)).alloc (.cells #[.string ({ data := #[] } : ByteArray), .slice none 0 0] 48)) (Bt w (w.heap.size + 1) S) Ty.bit.tree ⟨b1, q1, l1, cc1⟩ from hx1.enter hg0 hS)
  have hm0 : MIn mb c a ((w.alloc (.cells #[.string ({ data := #[] } : ByteArray), .slice (some ⟨tb, 0, none⟩) 3 tc] 48)).alloc (.cells #[.string ({ data := #[] } : ByteArray), .slice none 0 0] 48)) := hM.below (((Below.refl _ _).alloc (Nat.le_refl _) _).alloc (by simp) _)
  have HM0 := hid hm0
  have KB := hid (fun W (h : ((w.alloc (.cells #[.string ({ data := #[] } : ByteArray), .slice (some ⟨tb, 0, none⟩) 3 tc] 48)).alloc (.cells #[.string ({ data := #[] } : ByteArray), .slice none 0 0] 48)).grownBy W (some mb)) => (show (W.cell? ⟨w.heap.size, 0, none⟩ = some (.string ({ data := #[] } : ByteArray)) ∧ W.cell? ⟨w.heap.size, 1, none⟩ = some (.slice (some ⟨tb, 0, none⟩) 3 tc) ∧ W.cell? ⟨tb, 0, none⟩ = some (.string (⟨#[62]⟩ : ByteArray)) ∧ W.cell? ⟨tb, 2, none⟩ = some (.string b1) ∧ W.cell? ⟨tb, 3, none⟩ = some (.slice q1 l1 cc1) ∧ W.cell? ⟨tb, 4, none⟩ = some (.string b2) ∧ W.cell? ⟨tb, 5, none⟩ = some (.slice q2 l2 cc2)) ∧ W.heap[w.heap.size + 1]? = some (.cells #[.string ({ data := #[] } : ByteArray), .slice none 0 0] 48) ∧ w.grownBy W (some mb) ∧ w.heap.size + 2 ≤ W.heap.size from by
    have h1 := block_grown (block_grown (heap_new w (.cells #[.string ({ data := #[] } : ByteArray), .slice (some ⟨tb, 0, none⟩) 3 tc] 48) _ rfl) (World.grownBy_alloc _ (.cells #[.string ({ data := #[] } : ByteArray), .slice none 0 0] 48) none) (by simp)) h (by simp; omega)
    have h2 := block_grown (heap_new (w.alloc (.cells #[.string ({ data := #[] } : ByteArray), .slice (some ⟨tb, 0, none⟩) 3 tc] 48)) (.cells #[.string ({ data := #[] } : ByteArray), .slice none 0 0] 48) (w.heap.size + 1) (by simp)) h (by simp; omega)
    have hsz := h.size
    simp at hsz
    have hg := hg0.trans h
    exact ⟨⟨Trn.cell h1 rfl, Trn.cell h1 rfl, cell_keptM g1 hg hbm, cell_keptM g2 hg hbm, cell_keptM g3 hg hbm, cell_keptM g4 hg hbm, cell_keptM g5 hg hbm⟩, h2, hg, by omega⟩))
  have HMU := hid (fun W (h : MIn mb c a W) => l6dMuch_any mb c a (by omega) (by omega) W h)
  have HNM := hid (l6dName_any mb c a hc (Bt w (w.heap.size + 1) S) _ hm0)
  have HH := hid H
  have HL := hid (fun W a1 ya yp yl yc (h : MIn mb c2 a1 W) (h1 : a1 ≤ 20000) (hx : TIn W (Bt w (w.heap.size + 1) S) Ty.bit.tree ⟨b1, q1, l1, cc1⟩) (hy : TIn W (Bt w (w.heap.size + 1) S) M ⟨ya, yp, yl, yc⟩) => list_row mb c2 a1 ({ data := #[108, 97, 109] } : ByteArray) (by decide) (by decide) [⟨nmB c, none, 0, 0⟩, ⟨b1, q1, l1, cc1⟩, ⟨ya, yp, yl, yc⟩] 3 3 rfl (by decide) (by decide) [.atom (nmB c), Ty.bit.tree, M] rfl (Bt w (w.heap.size + 1) S) HO.out W h h1 #[.string (nmB c), .slice none 0 0, .string b1, .slice q1 l1 cc1, .string ya, .slice yp yl yc] rfl (parts_three (name_in W _ c) hx hy))
  have j0 : (0 : Int) ≤ 0 ∧ (0 : Int) < 3 := by decide
  have j1 : (0 : Int) ≤ 1 ∧ (1 : Int) < 3 := by decide
  have hcm' : tc ≤ 9223372036854775807 := by unfold maxLen at hcm; omega
  obtain ⟨d1, d2, d3, d4, d5, d6, d7⟩ := (KB.out _ (World.grownBy.refl _ _)).1
  clear hS ht hM hg0 hx0 hx1 hx2 g1 g2 g3 g4 g5 H hSb hcm hc hm0
  go_enter Tryz.func23, Tryz.ntmps23
  go_wp2_with (first
    | (go_at_call 48; refine (HNM.out).mono ?_; rintro e w1 ⟨⟨na, np, nl, nc⟩, a1, rfl, hg1, ha1, hm1, ht1⟩; obtain ⟨rfl, rfl, rfl, rfl⟩ := atom_text ht1; have hga := hg1.trans (World.grownBy_alloc w1 (.cells #[.string (nmB c), .slice none 0 0] 48) (some mb)); obtain ⟨⟨e11, e12, e13, e14, e15, e16, e17⟩, -, -, hz1⟩ := KB.out _ hga; have hzz := (KB.out _ hg1).2.2.2; obtain ⟨hmf, hbx⟩ := bx_new (w := w) (r := w.heap.size + 1) (S := S) (by omega) (by omega) hm1 (name_in w1 _ c); obtain ⟨v1, v2⟩ := hbx.cells; have HG1 := hid hga; have HA1 := hid ha1; have HM1 := hid hmf; have HBX := hid hbx; have HN1 := hid hz1; have HT1 := hid (HT0.out.keepM hga HO.out); have HX1 := hid (HX0.out.keepM hga HO.out); clear hg1 ha1 hm1 ht1 hga hmf hbx hz1 hzz)
    | (go_at_call 43; refine (HMU.out _ HM0.out).mono ?_; rintro e w9 ⟨rfl, rfl⟩))
  obtain ⟨Wf, hWf⟩ : ∃ Wf, w1.alloc (.cells #[.string (nmB c), .slice none 0 0] 48) = Wf := ⟨_, rfl⟩
  obtain ⟨vb, hvb⟩ : ∃ vb, w1.heap.size = vb := ⟨_, rfl⟩
  rw [hWf] at HG1 HM1 HBX HN1 HT1 HX1 e11 e12 e13 e14 e15 e16 e17 v1 v2 ⊢
  rw [hvb] at HBX v1 v2 ⊢
  have HTD := hid (HT1.out.keepM (grown_any ((Below.refl Wf.heap.size Wf).drew) (some mb)) HO.out)
  have HMD := hid (HM1.out.below ((Below.refl Wf.heap.size Wf).drew))
  have HCS := hid (HH.out (Bt w (w.heap.size + 1) S) ⟨({ data := #[] } : ByteArray), some ⟨tb, 0, none⟩, 3, tc⟩ Wf.drew a1 HO.out HTD.out HMD.out (by have := HA1.out; omega))
  clear d1 d2 d3 d4 d5 d6 d7 hWf hvb
  go_wp2_with fail
  go_region_held3 (fun W => (W.cell? ⟨w.heap.size, 0, none⟩ = some (.string ({ data := #[] } : ByteArray)) ∧ W.cell? ⟨w.heap.size, 1, none⟩ = some (.slice (some ⟨tb, 0, none⟩) 3 tc) ∧ W.cell? ⟨tb, 0, none⟩ = some (.string (⟨#[62]⟩ : ByteArray)) ∧ W.cell? ⟨tb, 2, none⟩ = some (.string b1) ∧ W.cell? ⟨tb, 3, none⟩ = some (.slice q1 l1 cc1) ∧ W.cell? ⟨tb, 4, none⟩ = some (.string b2) ∧ W.cell? ⟨tb, 5, none⟩ = some (.slice q2 l2 cc2)) ∧ W.cell? ⟨vb, 0, none⟩ = some (.string (nmB c)) ∧ W.cell? ⟨vb, 1, none⟩ = some (.slice none 0 0))
    (first | exact ⟨⟨e11, e12, e13, e14, e15, e16, e17⟩, v1, v2⟩ | exact ⟨⟨m51, m52, m53, m54, m55, m56, m57⟩, u51, u52⟩ | exact ⟨⟨m41, m42, m43, m44, m45, m46, m47⟩, u41, u42⟩ | exact ⟨⟨m31, m32, m33, m34, m35, m36, m37⟩, u31, u32⟩ | exact ⟨⟨m21, m22, m23, m24, m25, m26, m27⟩, u21, u22⟩)
    (first
      | (have _ := HM3; go_at_call 47; refine (HL.out w3 a3 ya yp yl yc HM3.out (by have := HA1.out; have := HA3.out; omega) HX3.out HY3.out).mono ?_; rintro e w4 ⟨⟨xa, xp, xl, xc⟩, a4, rfl, hg4, ha4, hm4, ht4⟩; have hga := (World.grownBy_alloc w3 (.cells #[.string (nmB c), .slice none 0 0, .string b1, .slice q1 l1 cc1, .string ya, .slice yp yl yc] 48) (some mb)).trans hg4; have hg04 := HG3.out.trans hga; obtain ⟨⟨m41, m42, m43, m44, m45, m46, m47⟩, hr4, hw4, hz4⟩ := KB.out w4 hg04; obtain ⟨k1, k2, k3, k4⟩ := cells_of_pair hr4; have hgp := grown_pair w4 (w.heap.size + 1) (.string xa) (.slice xp xl xc); have hbx4 := HBX3.out.keepM hga HO.out hlt; obtain ⟨u41, u42⟩ := hbx4.cells; have hvr := hbx4.2.2.2; have m51 := cell_keptM m41 hgp (by omega); have m52 := cell_keptM m42 hgp (by omega); have m53 := cell_keptM m43 hgp (by omega); have m54 := cell_keptM m44 hgp (by omega); have m55 := cell_keptM m45 hgp (by omega); have m56 := cell_keptM m46 hgp (by omega); have m57 := cell_keptM m47 hgp (by omega); have u51 := cell_keptM u41 hgp hvr; have u52 := cell_keptM u42 hgp hvr; have HT4 := hid (ht4.aft (r := w.heap.size + 1) (w := w) (by have := HZ3.out; simp; omega) (by have := HZ3.out; simp; omega)); have HW4 := hid hw4; have HR4 := hid hr4; have HM4 := hid hm4; have HA4 := hid ha4; clear hg4 ha4 hm4 ht4 hga hg04 hr4 hw4 hz4 hgp hbx4 hvr)
      | (go_at_call 51; refine (HCS.out).mono ?_; rintro e w3 ⟨⟨ya, yp, yl, yc⟩, a3, rfl, hg3, ha3, hm3, ht3⟩; have hgd := (grown_any ((Below.refl Wf.heap.size Wf).drew) (some mb)).trans hg3; have hg03 := HG1.out.trans hgd; obtain ⟨⟨m21, m22, m23, m24, m25, m26, m27⟩, -, -, hz3⟩ := KB.out w3 hg03; obtain ⟨⟨m31, m32, m33, m34, m35, m36, m37⟩, -, -, -⟩ := KB.out _ (hg03.trans (World.grownBy_alloc w3 (.cells #[.string (nmB c), .slice none 0 0, .string b1, .slice q1 l1 cc1, .string ya, .slice yp yl yc] 48) (some mb))); have hbx3 := HBX.out.keepM hgd HO.out hlt; obtain ⟨u21, u22⟩ := hbx3.cells; obtain ⟨u31, u32⟩ := (hbx3.keepM (World.grownBy_alloc w3 (.cells #[.string (nmB c), .slice none 0 0, .string b1, .slice q1 l1 cc1, .string ya, .slice yp yl yc] 48) (some mb)) HO.out hlt).cells; have HBX3 := hid hbx3; have HG3 := hid hg03; have HZ3 := hid hz3; have HM3 := hid hm3; have HA3 := hid ha3; have HX3 := hid (HX1.out.keepM hgd HO.out); have HY3 := hid (ht3.aft (r := w.heap.size + 1) (w := w) (by show _ < Wf.heap.size; have := HN1.out; omega) (by show _ ≤ Wf.heap.size; have := HN1.out; omega)); clear hgd hg3 ha3 hm3 ht3 hg03 hz3 hbx3))
  go_wp2_with fail
  have hx := cells_of_pair (set_pair (set_pair HR4.out (.string xa)).1 (.slice xp xl xc)).2
  refine bodyPost_ret (v := .agg #[.string xa, .slice xp xl xc]) (by simp [results, Tryz.results23, go_sem, hx.1, hx.2.1]) rfl ?_
  exact LPost.res HT4.out HW4.out HM4.out (by have := HA1.out; have := HA3.out; have := HA4.out; omega) (by omega) hlt
end Go.Proofs.YtagifgekhboinaaGreatDoor

namespace Go.Proofs.YtagifgekhboinaaGreatDoor
open Go.RowKit

theorem bx_store {w w2 w3 : World} {r vb mb c a : Nat} {S : Nat → Prop} {V : Tree} {va : ByteArray} {vp : Option Addr} {vl vc : Nat} (hb : w2.heap[vb]? = some (.cells #[.string ({ data := #[] } : ByteArray), .slice none 0 0] 48)) (hm : vb ≠ mb) (hvr : vb ≠ r) (hw : w.heap.size ≤ vb) (hr : r < w2.heap.size) (hg : w2.grownBy w3 (some mb))
    (hM : MIn mb c a w3) (ht : TIn w3 (Aft w2 (fun j => Bt w r S j ∧ j ≠ vb)) V ⟨va, vp, vl, vc⟩) :
    (w3.cell? ⟨vb, 0, none⟩ = some (.string ({ data := #[] } : ByteArray)) ∧ w3.cell? ⟨vb, 1, none⟩ = some (.slice none 0 0) ∧ w3.frozen? ⟨vb, 0, none⟩ = false ∧ w3.frozen? ⟨vb, 1, none⟩ = false) ∧
    MIn mb c a ((w3.setCell ⟨vb, 0, none⟩ (.string va)).setCell ⟨vb, 1, none⟩ (.slice vp vl vc)) ∧
    Bx w r vb S V va vp vl vc ((w3.setCell ⟨vb, 0, none⟩ (.string va)).setCell ⟨vb, 1, none⟩ (.slice vp vl vc)) ∧
    (∀ base : World, base.grownBy w3 (some mb) → base.heap.size ≤ vb → base.grownBy ((w3.setCell ⟨vb, 0, none⟩ (.string va)).setCell ⟨vb, 1, none⟩ (.slice vp vl vc)) (some mb)) := by
  have hb3 : w3.heap[vb]? = some (.cells #[.string ({ data := #[] } : ByteArray), .slice none 0 0] 48) := block_grown hb hg (by simp; omega)
  have hgp := grown_pair w3 vb (.string va) (.slice vp vl vc)
  have hlt := lt_of_block hb
  refine ⟨cells_of_pair hb3, hM.grown hgp (by simp; omega), ⟨(set_pair (set_pair hb3 _).1 _).2, ?_, hw, hvr⟩, fun base h1 h2 => grown_res h1 vb h2 _ _⟩
  refine ht.keep (fun k hk hl => hgp.block k hl ?_) (fun k hk _ => ?_)
  · rcases hk with ⟨⟨_, hk⟩, _⟩ | hk
    · simp; omega
    · simp; omega
  · rcases hk with ⟨⟨hk, _⟩, _⟩ | hk
    · exact hk
    · exact Or.inr ⟨by omega, by omega⟩
end Go.Proofs.YtagifgekhboinaaGreatDoor
