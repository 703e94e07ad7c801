/- Merged: DfO, DfF, DfG, DfH, DfI, MkG. -/
import Derived.Deep.RegionHeld3
import Derived.Test.YtagifgekhboinaaGreatDoorDA22
import Derived.Test.YtagifgekhboinaaGreatDoorDA17
import Derived.Test.YtagifgekhboinaaGreatDoorDA9
import Derived.Test.YtagifgekhboinaaGreatDoorDA30
import Derived.Test.YtagifgekhboinaaGreatDoorDA29
namespace Go.Proofs.YtagifgekhboinaaGreatDoor
open Go.RowKit Go.Maps

set_option maxRecDepth 100000 in
set_option maxHeartbeats 4000000 in
theorem outcome_fail (x : Ty) (st : Int) (k xn o b nb n c : Nat) (D : DataW Unit) (w : World) (hd : DIn b nb n c D w) (ho : outc (k : Int) (st : Int) xn = (o : Int)) (hk : k ≤ 5000) (hx5 : xn ≤ 5000) (hkx : (k : Int) < (2 * (xn : Int) + 1) * (2 * (xn : Int) + 1)) (hxl : (Ty.ret x).write.length ≤ 1000)
    (H : ∀ W n c D, DIn b nb n c D W → n + x.write.length ≤ 1000000 → Calls Tryz.prog 33 #[.map (some b), x.val] W fun e W' => e = .returned (.int .i64 (xn : Int)) ∧ Trn b nb W W' ∧ ∃ n' D', n' ≤ n + x.write.length ∧ DIn b nb n' c D' W')
    (h0 : o = 0) (hn : n + x.write.length ≤ 900000) :
    Calls Tryz.prog 64 #[.agg #[.map (some b), .func (.func 81) #[] #[.pointer (some ⟨nb, 0, none⟩)]], .agg #[x.val], .int .i64 (k : Int), .int .i64 (st : Int)] w (DPost b nb n x.write.length c (Tree.node [.atom wFail, (Ty.ret x).tree]).txt w) := by
  obtain ⟨hlb, hln⟩ := hd.lt
  have HC := hid H
  have HO := hid (fun W => (show Calls Tryz.prog 85 #[.int .i64 (k : Int), .int .i64 (st : Int), .int .i64 (xn : Int)] W fun e w' => e = .returned (.int .i64 0) ∧ W = w' from by have := outcomeAt_any (k : Int) (st : Int) xn (by omega) (by omega) hx5 hkx W; rw [ho, h0] at this; exact this))
  have HTX := hid (fun W => typeText_any (.ret x) (by omega) W)
  have HN := hid hn
  obtain ⟨nx, vx, hx⟩ := x.val_iface
  have e1 : (Ty.ret x).val = .iface 110 (.agg #[x.val]) := rfl
  rw [e1] at HTX
  rw [hx] at HC HTX
  rw [hx]
  have hw0 : (Tree.atom wFail).txt = ({ data := #[102, 97, 105, 108] } : ByteArray) := atom_txt _
  have hw1 : (Ty.ret x).tree.txt = (Ty.ret x).text := tree_txt _
  have hw2 : (Ty.ret x).tree.write.length ≤ 1000 := by rw [ty_tree_write]; exact hxl
  have hl : (Tree.node [.atom wFail, (Ty.ret x).tree]).write.length ≤ 20000 := by simp [Tree.write, Tree.writes, wFail]; omega
  have HROW := hid (fun W => row_cells (heap_new W (.cells #[.string ({ data := #[102, 97, 105, 108] } : ByteArray), .string (Ty.ret x).text] 9) W.heap.size rfl) (ps := [.atom wFail, (Ty.ret x).tree]) (by simp [hw0, hw1]))
  have HL := hid hl
  have KB := hid (fun W (h : Trn b nb ((w.alloc (.cells #[.map (some b), .func (.func 81) #[] #[.pointer (some ⟨nb, 0, none⟩)]] 74)).alloc (.cells #[.iface nx vx] 110)) W) =>
    (show (W.cell? ⟨w.heap.size, 0, none⟩ = some (.map (some b)) ∧ W.cell? ⟨w.heap.size, 1, none⟩ = some (.func (.func 81) #[] #[.pointer (some ⟨nb, 0, none⟩)]) ∧ W.cell? ⟨w.heap.size + 1, 0, none⟩ = some (.iface nx vx)) ∧ Trn b nb w W from by
      obtain ⟨f1, f2, f3⟩ := Trn.two w _ _ hlb hln h
      exact ⟨⟨Trn.cell f1 rfl, Trn.cell f1 rfl, Trn.cell f2 rfl⟩, f3⟩))
  have HD0 := hid (hd.below (((Below.refl _ _).alloc (Nat.le_refl _) (.cells #[.map (some b), .func (.func 81) #[] #[.pointer (some ⟨nb, 0, none⟩)]] 74)).alloc (by simp) (.cells #[.iface nx vx] 110)))
  clear H hd hn hx hlb hln hl hw0 hw1 hw2 e1 ho h0 hkx hxl
  go_enter Tryz.func64, Tryz.ntmps64
  go_wp2_with (first
    | (have _ := HB2; go_at_call 63; refine (list_any [.atom wFail, (Ty.ret x).tree] 2 _ 2 rfl (by decide) HL.out (by decide) _ (by simp) (HROW.out _)).mono ?_; rintro e w3 ⟨rfl, hb3⟩)
    | (have _ := HD1; go_at_call 61; refine (HTX.out _).mono ?_; rintro e w2 ⟨rfl, hb2⟩; have HB2 := hid hb2; clear hb2)
    | (have _ := HD1; go_at_call 85; refine (HO.out _).mono ?_; rintro e w9 ⟨rfl, rfl⟩)
    | (go_at_call 33; refine (HC.out _ n c D HD0.out (by have := HN.out; omega)).mono ?_; rintro e w1 ⟨rfl, ht1, n1, D1, hn1, hd1⟩; have HT1 := hid ht1; have HD1 := hid hd1; have HN1 := hid hn1; obtain ⟨⟨d1, d2, d3⟩, htw1⟩ := KB.out w1 ht1; have HW1 := hid htw1; clear htw1; clear ht1 hd1 hn1))
  go_ret
  have hbb := HB2.out.trans (((Below.refl w2.heap.size w2).alloc (Nat.le_refl _) (.cells #[.string ({ data := #[102, 97, 105, 108] } : ByteArray), .string (Ty.ret x).text] 9)).trans (hb3.mono (by simp)) |>.mono HB2.out.size)
  exact ⟨rfl, HW1.out.trans (Trn.below hbb), n1, D1, HN1.out, HD1.out.below hbb⟩

set_option maxRecDepth 100000 in
set_option maxHeartbeats 4000000 in
theorem outcome_put (x : Ty) (st : Int) (k xn o b nb n c c1 : Nat) (D : DataW Unit) (A : Tree) (w : World) (hd : DIn b nb n c D w) (ho : outc (k : Int) (st : Int) xn = (o : Int)) (hk : k ≤ 5000) (hx2 : 2 ≤ xn) (hx5 : xn ≤ 5000) (hkx : (k : Int) < (2 * (xn : Int) + 1) * (2 * (xn : Int) + 1))
    (H : ∀ W n c D, DIn b nb n c D W → n + x.write.length ≤ 1000000 → Calls Tryz.prog 33 #[.map (some b), x.val] W fun e W' => e = .returned (.int .i64 (xn : Int)) ∧ Trn b nb W W' ∧ ∃ n' D', n' ≤ n + x.write.length ∧ DIn b nb n' c D' W')
    (h0 : 1 ≤ o) (hn : n + x.write.length + x.dbud ≤ 900000) (hA : A.write.length ≤ 5000) (ho2 : o ≤ 2 * xn)
    (H1 : ∀ W n D, DIn b nb n c D W → n + x.dbud ≤ 900000 → Calls Tryz.prog 35 #[.agg #[.map (some b), .func (.func 81) #[] #[.pointer (some ⟨nb, 0, none⟩)]], x.val, .int .i64 (((o - 1) % xn : Nat) : Int)] W (DPost b nb n x.dbud c1 A.txt W)) :
    Calls Tryz.prog 64 #[.agg #[.map (some b), .func (.func 81) #[] #[.pointer (some ⟨nb, 0, none⟩)]], .agg #[x.val], .int .i64 (k : Int), .int .i64 (st : Int)] w (DPost b nb n (x.write.length + x.dbud) c1 (Tree.node [.atom wPut, bitT ((o - 1) / xn), .node [.atom wReturn, A]]).txt w) := by
  obtain ⟨hlb, hln⟩ := hd.lt
  have HC := hid H
  have HC1 := hid H1
  have HO := hid (fun W => (show Calls Tryz.prog 85 #[.int .i64 (k : Int), .int .i64 (st : Int), .int .i64 (xn : Int)] W fun e w' => e = .returned (.int .i64 (o : Int)) ∧ W = w' from by have := outcomeAt_any (k : Int) (st : Int) xn (by omega) (by omega) hx5 hkx W; rw [ho] at this; exact this))
  have hq : (((o - 1 : Nat) : Int)) = (o : Int) - 1 := by omega
  have hq1 : ((o : Int) - 1) / (xn : Int) = (((o - 1) / xn : Nat) : Int) := by rw [← hq]; rfl
  have hq2 : ((o : Int) - 1) % (xn : Int) = (((o - 1) % xn : Nat) : Int) := by rw [← hq]; rfl
  have HR := hid (fun W => (show Calls Tryz.prog 86 #[.int .i64 (o : Int), .int .i64 (xn : Int)] W fun e w' => e = .returned (.tuple #[.int .i64 (((o - 1) / xn : Nat) : Int), .int .i64 (((o - 1) % xn : Nat) : Int)]) ∧ Below W.heap.size W w' from by have := returnedBy_any (o : Int) xn (by omega) (by omega) hx2 hx5 W; rw [hq1, hq2] at this; exact this))
  have hbt : (o - 1) / xn < 2 := Nat.div_lt_of_lt_mul (by omega)
  have HI := hid (fun W => itoa_bit ((o - 1) / xn) hbt W)
  have o0 : ((o : Int) == 0) = false := by simp; omega
  have HN := hid hn
  obtain ⟨nx, vx, hx⟩ := x.val_iface
  rw [hx] at HC HC1
  rw [hx]
  have hw0 : (Tree.atom wReturn).txt = ({ data := #[114, 101, 116, 117, 114, 110] } : ByteArray) := atom_txt _
  have hw1 : (Tree.atom wPut).txt = ({ data := #[112, 117, 116] } : ByteArray) := atom_txt _
  have hw2 : (bitT ((o - 1) / xn)).txt = bitS ((o - 1) / xn) := atom_txt _
  have hw3 := (sm_bit ((o - 1) / xn)).2.2
  have hl0 : (Tree.node [.atom wReturn, A]).write.length ≤ 6000 := by simp [Tree.write, Tree.writes, wReturn]; omega
  have hl : (Tree.node [.atom wPut, bitT ((o - 1) / xn), .node [.atom wReturn, A]]).write.length ≤ 20000 := by
    generalize Tree.node [.atom wReturn, A] = R at *
    simp only [Tree.write, Tree.writes, List.length_cons, List.length_append, List.length_nil, wPut, hw3]; omega
  have HROW := hid (fun W => row_cells (heap_new W (.cells #[.string ({ data := #[114, 101, 116, 117, 114, 110] } : ByteArray), .string A.txt] 9) W.heap.size rfl) (ps := [.atom wReturn, A]) (by simp [hw0]))
  have HROW2 := hid (fun W => row_cells (heap_new W (.cells #[.string ({ data := #[112, 117, 116] } : ByteArray), .string (bitS ((o - 1) / xn)), .string (Tree.node [.atom wReturn, A]).txt] 9) W.heap.size rfl) (ps := [.atom wPut, bitT ((o - 1) / xn), .node [.atom wReturn, A]]) (by simp only [List.map_cons, List.map_nil, hw1, hw2]))
  have HL0 := hid (show (Tree.node [.atom wReturn, A]).write.length ≤ 20000 by omega)
  have HL := hid hl
  have KB := hid (fun W (h : Trn b nb ((w.alloc (.cells #[.map (some b), .func (.func 81) #[] #[.pointer (some ⟨nb, 0, none⟩)]] 74)).alloc (.cells #[.iface nx vx] 110)) W) =>
    (show (W.cell? ⟨w.heap.size, 0, none⟩ = some (.map (some b)) ∧ W.cell? ⟨w.heap.size, 1, none⟩ = some (.func (.func 81) #[] #[.pointer (some ⟨nb, 0, none⟩)]) ∧ W.cell? ⟨w.heap.size + 1, 0, none⟩ = some (.iface nx vx)) ∧ Trn b nb w W from by
      obtain ⟨f1, f2, f3⟩ := Trn.two w _ _ hlb hln h
      exact ⟨⟨Trn.cell f1 rfl, Trn.cell f1 rfl, Trn.cell f2 rfl⟩, f3⟩))
  have HD0 := hid (hd.below (((Below.refl _ _).alloc (Nat.le_refl _) (.cells #[.map (some b), .func (.func 81) #[] #[.pointer (some ⟨nb, 0, none⟩)]] 74)).alloc (by simp) (.cells #[.iface nx vx] 110)))
  obtain ⟨q, hqq⟩ : ∃ q, (o - 1) / xn = q := ⟨_, rfl⟩
  obtain ⟨r, hrr⟩ : ∃ r, (o - 1) % xn = r := ⟨_, rfl⟩
  rw [hqq] at HR HI HROW2 HL
  rw [hrr] at HR HC1
  rw [hqq]
  clear H H1 hd hn hx hlb hln hl hl0 hw0 hw1 hw2 hw3 ho h0 hkx hq hq1 hq2 hbt hqq hrr
  go_enter Tryz.func64, Tryz.ntmps64
  go_wp2_with (first
    | (have _ := HD1; go_at_call 86; refine (HR.out _).mono ?_; rintro e w2 ⟨rfl, hb2⟩; have ht2 := HT1.out.trans (Trn.below hb2); obtain ⟨⟨e21, e22, e23⟩, -⟩ := KB.out w2 ht2; have HT2 := hid ht2; have HD2 := hid (HD1.out.below hb2); clear ht2 hb2)
    | (have _ := HD1; go_at_call 85; refine (HO.out _).mono ?_; rintro e w9 ⟨rfl, rfl⟩)
    | (go_at_call 33; refine (HC.out _ n c D HD0.out (by have := HN.out; omega)).mono ?_; rintro e w1 ⟨rfl, ht1, n1, D1, hn1, hd1⟩; have HT1 := hid ht1; have HD1 := hid hd1; have HN1 := hid hn1; obtain ⟨⟨d1, d2, d3⟩, -⟩ := KB.out w1 ht1; clear ht1 hd1 hn1))
  go_region_held3 (fun w' => w'.cell? ⟨w.heap.size, 0, none⟩ = some (.map (some b)) ∧ w'.cell? ⟨w.heap.size, 1, none⟩ = some (.func (.func 81) #[] #[.pointer (some ⟨nb, 0, none⟩)]) ∧ w'.cell? ⟨w.heap.size + 1, 0, none⟩ = some (.iface nx vx))
    (first | exact ⟨e21, e22, e23⟩ | exact ⟨e61, e62, e63⟩ | exact ⟨e51, e52, e53⟩ | exact ⟨e41, e42, e43⟩ | exact ⟨e31, e32, e33⟩)
    (first
      | (have _ := HD5; go_at_call 63; refine (list_any [.atom wPut, bitT q, .node [.atom wReturn, A]] 3 _ 3 rfl (by decide) HL.out (by decide) _ (by simp) (HROW2.out _)).mono ?_; rintro e w7 ⟨rfl, hb7⟩; have ht7 := HT6.out.trans (Trn.below hb7); obtain ⟨⟨e61, e62, e63⟩, hw7⟩ := KB.out w7 ht7; have HD7 := hid (HD6.out.below hb7); have HW7 := hid hw7; clear hb7 ht7 hw7)
      | (have _ := HD3; go_at_call 63; refine (list_any [.atom wReturn, A] 2 _ 2 rfl (by decide) HL0.out (by decide) _ (by simp) (HROW.out _)).mono ?_; rintro e w5 ⟨rfl, hb5⟩; have ht5 := HT4.out.trans (Trn.below hb5); obtain ⟨⟨e51, e52, e53⟩, -⟩ := KB.out w5 ht5; have hdd := HD4.out.below hb5; have HD5 := hid hdd; have HT6 := hid (ht5.trans (Trn.alloc w5 (.cells #[.string ({ data := #[112, 117, 116] } : ByteArray), .string (bitS q), .string (Tree.node [.atom wReturn, A]).txt] 9))); obtain ⟨⟨e41, e42, e43⟩, -⟩ := KB.out _ HT6.out; have HD6 := hid (hdd.below ((Below.refl _ _).alloc (Nat.le_refl _) (.cells #[.string ({ data := #[112, 117, 116] } : ByteArray), .string (bitS q), .string (Tree.node [.atom wReturn, A]).txt] 9))); clear hb5 ht5 hdd)
      | (go_at_call 66; refine (HI.out _).mono ?_; rintro e w8 ⟨rfl, rfl⟩)
      | (go_at_call 35; refine (HC1.out w2.drew n1 D1 (HD2.out.below ((Below.refl _ _).drew)) (by have := HN.out; have := HN1.out; omega)).mono ?_; rintro e w3 ⟨rfl, ht3, n3, D3, hn3, hd3⟩; have ht03 := (HT2.out.trans (Trn.below ((Below.refl _ w2).drew))).trans ht3; obtain ⟨⟨e31, e32, e33⟩, -⟩ := KB.out w3 ht03; have HT4 := hid (ht03.trans (Trn.alloc w3 (.cells #[.string ({ data := #[114, 101, 116, 117, 114, 110] } : ByteArray), .string A.txt] 9))); obtain ⟨⟨e41, e42, e43⟩, -⟩ := KB.out _ HT4.out; have HD4 := hid (hd3.below ((Below.refl _ _).alloc (Nat.le_refl _) (.cells #[.string ({ data := #[114, 101, 116, 117, 114, 110] } : ByteArray), .string A.txt] 9))); have HN3 := hid hn3; have HD3 := hid hd3; clear ht3 hn3 hd3 ht03))
  go_wp2_with fail
  go_ret
  refine ⟨rfl, HW7.out, n3, D3, ?_, HD7.out⟩
  have := HN1.out; have := HN3.out; omega
end Go.Proofs.YtagifgekhboinaaGreatDoor

namespace Go.Proofs.YtagifgekhboinaaGreatDoor
open Go.RowKit Go.Maps

set_option maxRecDepth 100000 in
set_option maxHeartbeats 4000000 in
theorem define_fn (y : Ty) (k b nb n m c c2 : Nat) (D : DataW Unit) (A : Tree) (w : World) (hd : DIn b nb n c D w) (hc : c < 99) (hA : A.write.length ≤ 10000) (hn : n + m ≤ 900000)
    (H1 : ∀ W n D, DIn b nb n (c + 1) D W → n + m ≤ 900000 → Calls Tryz.prog 65 #[.agg #[.map (some b), .func (.func 81) #[] #[.pointer (some ⟨nb, 0, none⟩)]], .agg #[Ty.bit.val, y.val], .int .i64 (k : Int), .string (nmB c), .int .i64 0] W (DPost b nb n m c2 A.txt W)) :
    Calls Tryz.prog 35 #[.agg #[.map (some b), .func (.func 81) #[] #[.pointer (some ⟨nb, 0, none⟩)]], (Ty.fn .bit y).val, .int .i64 (k : Int)] w (DPost b nb n m c2 (Tree.node [.atom wLam, .atom (nmB c), Ty.bit.tree, A]).txt w) := by
  obtain ⟨hlb, hln⟩ := hd.lt
  have HC1 := hid H1
  have HN := hid hn
  have HCC := hid hc
  have HTX := hid (fun W => typeText_any .bit (by decide) W)
  obtain ⟨nx, vx, hx⟩ := Ty.bit.val_iface
  obtain ⟨ny, vy, hy⟩ := y.val_iface
  rw [Ty.val]
  rw [hx] at HTX
  rw [hx, hy] at HC1
  rw [hx, hy]
  have a1 := as_fn_pair (.agg #[.iface nx vx, .iface ny vy])
  have a2 := as_fn_choice (.agg #[.iface nx vx, .iface ny vy])
  have a3 := as_fn_thunk (.agg #[.iface nx vx, .iface ny vy])
  have a4 := as_fn_ret (.agg #[.iface nx vx, .iface ny vy])
  have a5 := as_fn_fn (.agg #[.iface nx vx, .iface ny vy])
  have hw0 : (Tree.atom wLam).txt = ({ data := #[108, 97, 109] } : ByteArray) := atom_txt _
  have hw1 : Ty.bit.tree.txt = Ty.bit.text := tree_txt _
  have hw2 : (Tree.atom (nmB c)).txt = nmB c := atom_txt _
  have hnl := nm_len c
  have hbl : Ty.bit.tree.write.length = 1 := rfl
  have hl : (Tree.node [.atom wLam, .atom (nmB c), Ty.bit.tree, A]).write.length ≤ 20000 := by
    generalize Ty.bit.tree = R at *
    simp only [Tree.write, Tree.writes, List.length_cons, List.length_append, List.length_nil, wLam]; omega
  have HROW := hid (fun W => row_cells (heap_new W (.cells #[.string ({ data := #[108, 97, 109] } : ByteArray), .string (nmB c), .string Ty.bit.text, .string A.txt] 9) W.heap.size rfl) (ps := [.atom wLam, .atom (nmB c), Ty.bit.tree, A]) (by simp only [List.map_cons, List.map_nil, hw0, hw1, hw2]))
  have HL := hid hl
  have KB := hid (fun W (h : Trn b nb ((w.alloc (.cells #[.map (some b), .func (.func 81) #[] #[.pointer (some ⟨nb, 0, none⟩)]] 74)).alloc (.cells #[.iface nx vx, .iface ny vy] 113)) W) =>
    (show (W.cell? ⟨w.heap.size, 0, none⟩ = some (.map (some b)) ∧ W.cell? ⟨w.heap.size, 1, none⟩ = some (.func (.func 81) #[] #[.pointer (some ⟨nb, 0, none⟩)]) ∧ W.cell? ⟨w.heap.size + 1, 0, none⟩ = some (.iface nx vx) ∧ W.cell? ⟨w.heap.size + 1, 1, none⟩ = some (.iface ny vy)) ∧ Trn b nb w W from by
      obtain ⟨f1, f2, f3⟩ := Trn.two w _ _ hlb hln h
      exact ⟨⟨Trn.cell f1 rfl, Trn.cell f1 rfl, Trn.cell f2 rfl, Trn.cell f2 rfl⟩, f3⟩))
  have HD0 := hid (hd.below (((Below.refl _ _).alloc (Nat.le_refl _) (.cells #[.map (some b), .func (.func 81) #[] #[.pointer (some ⟨nb, 0, none⟩)]] 74)).alloc (by simp) (.cells #[.iface nx vx, .iface ny vy] 113)))
  clear H1 hd hn hx hy hlb hln hl hw0 hw1 hw2 hnl hbl hc
  go_enter Tryz.func35, Tryz.ntmps35
  go_wp2_with (go_at_call 81; refine (newName_any b nb n c D HCC.out _ HD0.out).mono ?_; rintro e w1 ⟨rfl, ht1, n1, D1, hn1, hd1⟩; obtain ⟨⟨d1, d2, d3, d4⟩, -⟩ := KB.out w1 ht1; have HT1 := hid ht1; have HD1 := hid hd1; have HN1 := hid hn1; clear ht1 hd1 hn1)
  go_region_held3 (fun w' => w'.cell? ⟨w.heap.size, 0, none⟩ = some (.map (some b)) ∧ w'.cell? ⟨w.heap.size, 1, none⟩ = some (.func (.func 81) #[] #[.pointer (some ⟨nb, 0, none⟩)]) ∧ w'.cell? ⟨w.heap.size + 1, 0, none⟩ = some (.iface nx vx) ∧ w'.cell? ⟨w.heap.size + 1, 1, none⟩ = some (.iface ny vy))
    (first | exact ⟨d1, d2, d3, d4⟩ | exact ⟨e51, e52, e53, e54⟩ | exact ⟨e41, e42, e43, e44⟩ | exact ⟨e31, e32, e33, e34⟩ | exact ⟨e21, e22, e23, e24⟩)
    (first
      | (have _ := HD3; go_at_call 63; refine (list_any [.atom wLam, .atom (nmB c), Ty.bit.tree, A] 4 _ 4 rfl (by decide) HL.out (by decide) _ (by simp) (HROW.out _)).mono ?_; rintro e w5 ⟨rfl, hb5⟩; have ht5 := HT4.out.trans (Trn.below hb5); obtain ⟨⟨e51, e52, e53, e54⟩, hw5⟩ := KB.out w5 ht5; have HD5 := hid (HD4.out.below hb5); have HW5 := hid hw5; clear hb5 ht5 hw5)
      | (go_at_call 61; refine (HTX.out w1.drew).mono ?_; rintro e w2 ⟨rfl, hb2⟩; have ht02 := HT1.out.trans (Trn.below (((Below.refl _ w1).drew).trans hb2)); obtain ⟨⟨e21, e22, e23, e24⟩, -⟩ := KB.out w2 ht02; have HT2 := hid ht02; have HD2 := hid (HD1.out.below (((Below.refl _ w1).drew).trans hb2)); clear hb2 ht02)
      | (have _ := HD2; go_at_call 65; refine (HC1.out _ n1 D1 HD2.out (by have := HN.out; have := HN1.out; omega)).mono ?_; rintro e w3 ⟨rfl, ht3, n3, D3, hn3, hd3⟩; have ht03 := HT2.out.trans ht3; obtain ⟨⟨e31, e32, e33, e34⟩, -⟩ := KB.out w3 ht03; have HT4 := hid (ht03.trans (Trn.alloc w3 (.cells #[.string ({ data := #[108, 97, 109] } : ByteArray), .string (nmB c), .string Ty.bit.text, .string A.txt] 9))); obtain ⟨⟨e41, e42, e43, e44⟩, -⟩ := KB.out _ HT4.out; have HD4 := hid (hd3.below ((Below.refl _ _).alloc (Nat.le_refl _) (.cells #[.string ({ data := #[108, 97, 109] } : ByteArray), .string (nmB c), .string Ty.bit.text, .string A.txt] 9))); have HN3 := hid hn3; have HD3 := hid hd3; clear ht3 hn3 hd3 ht03))
  go_wp2_with fail
  go_ret
  refine ⟨rfl, HW5.out, n3, D3, ?_, HD5.out⟩
  have := HN1.out; have := HN3.out; omega
end Go.Proofs.YtagifgekhboinaaGreatDoor

namespace Go.Proofs.YtagifgekhboinaaGreatDoor
open Go.RowKit Go.Maps

set_option maxRecDepth 100000 in
set_option maxHeartbeats 4000000 in
theorem testValue_bit (k b nb : Nat) (v : Tree) (hv : v.write.length ≤ 1000) (w : World) :
    Calls Tryz.prog 88 #[.agg #[.map (some b), .func (.func 81) #[] #[.pointer (some ⟨nb, 0, none⟩)]], .string v.txt, Ty.bit.val, .int .i64 (k : Int)] w fun e w' => e = .returned (.string (tbit v k).txt) ∧ Below w.heap.size w w' := by
  have HT := hid (fun W => testBit_any v k hv W)
  simp only [Ty.val]
  have a1 := as_bit_pair (.agg #[])
  have a3 := as_bit_thunk (.agg #[])
  go_enter Tryz.func88, Tryz.ntmps88
  go_wp2_with (go_at_call 105; refine (HT.out _).mono ?_; rintro e w1 ⟨rfl, hb1⟩)
  go_ret
  exact ⟨rfl, (((Below.refl _ _).alloc (Nat.le_refl _) _).alloc (by simp) _).trans (hb1.mono (by simp; omega))⟩

set_option maxRecDepth 100000 in
set_option maxHeartbeats 4000000 in
theorem from_last (y : Ty) (k yn b nb n c c2 : Nat) (D : DataW Unit) (B : Tree) (X : ByteArray) (w : World) (hd : DIn b nb n c D w) (hk : k ≤ 5000) (hy2 : 2 ≤ yn) (hy5 : yn ≤ 5000)
    (H : ∀ W n c D, DIn b nb n c D W → n + y.write.length ≤ 1000000 → Calls Tryz.prog 33 #[.map (some b), y.val] W fun e W' => e = .returned (.int .i64 (yn : Int)) ∧ Trn b nb W W' ∧ ∃ n' D', n' ≤ n + y.write.length ∧ DIn b nb n' c D' W')
    (HB : ∀ W n c D, DIn b nb n c D W → n + 1 ≤ 1000000 → Calls Tryz.prog 33 #[.map (some b), Ty.bit.val] W fun e W' => e = .returned (.int .i64 2) ∧ Trn b nb W W' ∧ ∃ n' D', n' ≤ n + 1 ∧ DIn b nb n' c D' W')
    (hn : n + (1 + y.write.length + y.dbud) ≤ 900000)
    (H1 : ∀ W n D, DIn b nb n c D W → n + y.dbud ≤ 900000 → Calls Tryz.prog 35 #[.agg #[.map (some b), .func (.func 81) #[] #[.pointer (some ⟨nb, 0, none⟩)]], y.val, .int .i64 ((atN k yn 1 : Nat) : Int)] W (DPost b nb n y.dbud c2 B.txt W)) :
    Calls Tryz.prog 65 #[.agg #[.map (some b), .func (.func 81) #[] #[.pointer (some ⟨nb, 0, none⟩)]], .agg #[Ty.bit.val, y.val], .int .i64 (k : Int), .string X, .int .i64 1] w (DPost b nb n (1 + y.write.length + y.dbud) c2 B.txt w) := by
  obtain ⟨hlb, hln⟩ := hd.lt
  have HC := hid H
  have HCB := hid HB
  have HC1 := hid H1
  have HN := hid hn
  have HF := hid (fun W => (show Calls Tryz.prog 87 #[.int .i64 (k : Int), .int .i64 1, .int .i64 (yn : Int)] W fun e w' => e = .returned (.int .i64 ((atN k yn 1 : Nat) : Int)) ∧ W = w' from funAt_any k 1 yn hk (by decide) (by omega) hy5 W))
  obtain ⟨a, ha⟩ : ∃ a, atN k yn 1 = a := ⟨_, rfl⟩
  rw [ha] at HF HC1
  obtain ⟨nx, vx, hx⟩ := Ty.bit.val_iface
  obtain ⟨ny, vy, hy⟩ := y.val_iface
  rw [hx] at HCB
  rw [hy] at HC HC1
  rw [hx, hy]
  have KB := hid (fun W (h : Trn b nb ((w.alloc (.cells #[.map (some b), .func (.func 81) #[] #[.pointer (some ⟨nb, 0, none⟩)]] 74)).alloc (.cells #[.iface nx vx, .iface ny vy] 113)) W) =>
    (show (W.cell? ⟨w.heap.size, 0, none⟩ = some (.map (some b)) ∧ W.cell? ⟨w.heap.size, 1, none⟩ = some (.func (.func 81) #[] #[.pointer (some ⟨nb, 0, none⟩)]) ∧ W.cell? ⟨w.heap.size + 1, 0, none⟩ = some (.iface nx vx) ∧ W.cell? ⟨w.heap.size + 1, 1, none⟩ = some (.iface ny vy)) ∧ Trn b nb w W from by
      obtain ⟨f1, f2, f3⟩ := Trn.two w _ _ hlb hln h
      exact ⟨⟨Trn.cell f1 rfl, Trn.cell f1 rfl, Trn.cell f2 rfl, Trn.cell f2 rfl⟩, f3⟩))
  have HD0 := hid (hd.below (((Below.refl _ _).alloc (Nat.le_refl _) (.cells #[.map (some b), .func (.func 81) #[] #[.pointer (some ⟨nb, 0, none⟩)]] 74)).alloc (by simp) (.cells #[.iface nx vx, .iface ny vy] 113)))
  clear H HB H1 hd hn hx hy hlb hln ha
  go_enter Tryz.func65, Tryz.ntmps65
  go_wp2_with (first
    | (have _ := HD3; go_at_call 35; refine (HC1.out _ n3 D3 HD3.out (by have := HN.out; have := HN2.out; have := HN3.out; omega)).mono ?_; rintro e w4 ⟨rfl, ht4, n4, D4, hn4, hd4⟩; have HT4 := hid ht4; have HD4 := hid hd4; have HN4 := hid hn4; clear ht4 hd4 hn4)
    | (have _ := HD2; go_at_call 33; refine (HCB.out _ n2 c D2 HD2.out (by have := HN.out; have := HN2.out; omega)).mono ?_; rintro e w3 ⟨rfl, ht3, n3, D3, hn3, hd3⟩; have ht03 := HT2.out.trans ht3; obtain ⟨⟨e31, e32, e33, e34⟩, htw3⟩ := KB.out w3 ht03; have HT3 := hid ht03; have HW3 := hid htw3; have HD3 := hid hd3; have HN3 := hid hn3; clear ht3 hd3 hn3 ht03 htw3)
    | (have _ := HD2; go_at_call 87; refine (HF.out _).mono ?_; rintro e w9 ⟨rfl, rfl⟩)
    | (go_at_call 33; refine (HC.out _ n c D HD0.out (by have := HN.out; omega)).mono ?_; rintro e w2 ⟨rfl, ht2, n2, D2, hn2, hd2⟩; obtain ⟨⟨d1, d2, d3, d4⟩, -⟩ := KB.out w2 ht2; have HT2 := hid ht2; have HD2 := hid hd2; have HN2 := hid hn2; clear ht2 hd2 hn2))
  go_ret
  refine ⟨rfl, HW3.out.trans HT4.out, n4, D4, ?_, HD4.out⟩
  have := HN2.out; have := HN3.out; have := HN4.out; omega
end Go.Proofs.YtagifgekhboinaaGreatDoor

namespace Go.Proofs.YtagifgekhboinaaGreatDoor
open Go.RowKit Go.Maps

set_option maxRecDepth 100000 in
set_option maxHeartbeats 4000000 in
theorem from_first (y : Ty) (k yn b nb n c c1 c2 : Nat) (D : DataW Unit) (A B : Tree) (X : ByteArray) (w : World) (hd : DIn b nb n c D w) (hk : k ≤ 5000) (hy2 : 2 ≤ yn) (hy5 : yn ≤ 5000)
    (H : ∀ W n c D, DIn b nb n c D W → n + y.write.length ≤ 1000000 → Calls Tryz.prog 33 #[.map (some b), y.val] W fun e W' => e = .returned (.int .i64 (yn : Int)) ∧ Trn b nb W W' ∧ ∃ n' D', n' ≤ n + y.write.length ∧ DIn b nb n' c D' W')
    (HB : ∀ W n c D, DIn b nb n c D W → n + 1 ≤ 1000000 → Calls Tryz.prog 33 #[.map (some b), Ty.bit.val] W fun e W' => e = .returned (.int .i64 2) ∧ Trn b nb W W' ∧ ∃ n' D', n' ≤ n + 1 ∧ DIn b nb n' c D' W')
    (hc : c < 99) (hX : X.data.toList.length ≤ 3) (hA : A.write.length ≤ 5000) (hB : B.write.length ≤ 5000) (hn : n + (2 + 2 * y.write.length + 2 * y.dbud) ≤ 900000)
    (H1 : ∀ W n D, DIn b nb n (c + 1) D W → n + y.dbud ≤ 900000 → Calls Tryz.prog 35 #[.agg #[.map (some b), .func (.func 81) #[] #[.pointer (some ⟨nb, 0, none⟩)]], y.val, .int .i64 ((atN k yn 0 : Nat) : Int)] W (DPost b nb n y.dbud c1 A.txt W))
    (H2 : ∀ W n D, DIn b nb n c1 D W → n + (1 + y.write.length + y.dbud) ≤ 900000 → Calls Tryz.prog 65 #[.agg #[.map (some b), .func (.func 81) #[] #[.pointer (some ⟨nb, 0, none⟩)]], .agg #[Ty.bit.val, y.val], .int .i64 (k : Int), .string X, .int .i64 1] W (DPost b nb n (1 + y.write.length + y.dbud) c2 B.txt W)) :
    Calls Tryz.prog 65 #[.agg #[.map (some b), .func (.func 81) #[] #[.pointer (some ⟨nb, 0, none⟩)]], .agg #[Ty.bit.val, y.val], .int .i64 (k : Int), .string X, .int .i64 0] w (DPost b nb n (2 + 2 * y.write.length + 2 * y.dbud) c2 (Tree.node [.atom wTo, tbit (.atom X) 0, .atom (nmB c), .node [.atom wIf, .atom (nmB c), A, B]]).txt w) := by
  obtain ⟨hlb, hln⟩ := hd.lt
  have HC := hid H
  have HCB := hid HB
  have HC1 := hid H1
  have HC2 := hid H2
  have HN := hid hn
  have HCC := hid hc
  have HF := hid (fun W => (show Calls Tryz.prog 87 #[.int .i64 (k : Int), .int .i64 0, .int .i64 (yn : Int)] W fun e w' => e = .returned (.int .i64 ((atN k yn 0 : Nat) : Int)) ∧ W = w' from funAt_any k 0 yn hk (by decide) (by omega) hy5 W))
  have HTV := hid (fun W => (show Calls Tryz.prog 88 #[.agg #[.map (some b), .func (.func 81) #[] #[.pointer (some ⟨nb, 0, none⟩)]], .string X, Ty.bit.val, .int .i64 0] W fun e w' => e = .returned (.string (tbit (.atom X) 0).txt) ∧ Below W.heap.size W w' from by have := testValue_bit 0 b nb (.atom X) (by rw [atom_w]; omega) W; rw [atom_txt] at this; exact this))
  obtain ⟨a, ha⟩ : ∃ a, atN k yn 0 = a := ⟨_, rfl⟩
  rw [ha] at HF HC1
  obtain ⟨nx, vx, hx⟩ := Ty.bit.val_iface
  obtain ⟨ny, vy, hy⟩ := y.val_iface
  rw [hx] at HCB HC2 HTV
  rw [hy] at HC HC1 HC2
  rw [hx, hy]
  have hw0 : (Tree.atom wIf).txt = ({ data := #[105, 102] } : ByteArray) := atom_txt _
  have hw1 : (Tree.atom wTo).txt = ({ data := #[116, 111] } : ByteArray) := atom_txt _
  have hw2 : (Tree.atom (nmB c)).txt = nmB c := atom_txt _
  have hnl := nm_len c
  have htl : (tbit (.atom X) 0).write.length ≤ 40 := by
    have h0 := retB_len 0; have h1 := retB_len 1
    rw [tbit, if_neg (by decide)]
    simp only [Tree.write, Tree.writes, List.length_cons, List.length_append, List.length_nil, wIf, h0, h1]; omega
  have hl0 : (Tree.node [.atom wIf, .atom (nmB c), A, B]).write.length ≤ 11000 := by simp only [Tree.write, Tree.writes, List.length_cons, List.length_append, List.length_nil, wIf]; omega
  have hl : (Tree.node [.atom wTo, tbit (.atom X) 0, .atom (nmB c), .node [.atom wIf, .atom (nmB c), A, B]]).write.length ≤ 20000 := by
    generalize Tree.node [.atom wIf, .atom (nmB c), A, B] = R at *
    simp only [Tree.write, Tree.writes, List.length_cons, List.length_append, List.length_nil, wTo]; omega
  have HROW := hid (fun W => row_cells (heap_new W (.cells #[.string ({ data := #[105, 102] } : ByteArray), .string (nmB c), .string A.txt, .string B.txt] 9) W.heap.size rfl) (ps := [.atom wIf, .atom (nmB c), A, B]) (by simp only [List.map_cons, List.map_nil, hw0, hw2]))
  have HROW2 := hid (fun W => row_cells (heap_new W (.cells #[.string ({ data := #[116, 111] } : ByteArray), .string (tbit (.atom X) 0).txt, .string (nmB c), .string (Tree.node [.atom wIf, .atom (nmB c), A, B]).txt] 9) W.heap.size rfl) (ps := [.atom wTo, tbit (.atom X) 0, .atom (nmB c), .node [.atom wIf, .atom (nmB c), A, B]]) (by simp only [List.map_cons, List.map_nil, hw1, hw2]))
  have HL0 := hid (show (Tree.node [.atom wIf, .atom (nmB c), A, B]).write.length ≤ 20000 by omega)
  have HL := hid hl
  have KB := hid (fun W (h : Trn b nb ((w.alloc (.cells #[.map (some b), .func (.func 81) #[] #[.pointer (some ⟨nb, 0, none⟩)]] 74)).alloc (.cells #[.iface nx vx, .iface ny vy] 113)) W) =>
    (show (W.cell? ⟨w.heap.size, 0, none⟩ = some (.map (some b)) ∧ W.cell? ⟨w.heap.size, 1, none⟩ = some (.func (.func 81) #[] #[.pointer (some ⟨nb, 0, none⟩)]) ∧ W.cell? ⟨w.heap.size + 1, 0, none⟩ = some (.iface nx vx) ∧ W.cell? ⟨w.heap.size + 1, 1, none⟩ = some (.iface ny vy)) ∧ Trn b nb w W from by
      obtain ⟨f1, f2, f3⟩ := Trn.two w _ _ hlb hln h
      exact ⟨⟨Trn.cell f1 rfl, Trn.cell f1 rfl, Trn.cell f2 rfl, Trn.cell f2 rfl⟩, f3⟩))
  have HD0 := hid (hd.below (((Below.refl _ _).alloc (Nat.le_refl _) (.cells #[.map (some b), .func (.func 81) #[] #[.pointer (some ⟨nb, 0, none⟩)]] 74)).alloc (by simp) (.cells #[.iface nx vx, .iface ny vy] 113)))
  clear H HB H1 H2 hd hn hx hy hlb hln ha hl hl0 hw0 hw1 hw2 hnl htl hc hX
  go_enter Tryz.func65, Tryz.ntmps65
  go_wp2_with (first
    | (have _ := HD4; go_at_call 81; refine (newName_any b nb n3 c D3 HCC.out _ HD4.out).mono ?_; rintro e w5 ⟨rfl, ht5, n5, D5, hn5, hd5⟩; have ht05 := HT4.out.trans ht5; obtain ⟨⟨d1, d2, d3, d4⟩, -⟩ := KB.out w5 ht05; have HT5 := hid ht05; have HD5 := hid hd5; have HN5 := hid hn5; clear ht5 hd5 hn5 ht05)
    | (have _ := HD3; go_at_call 88; refine (HTV.out _).mono ?_; rintro e w4 ⟨rfl, hb4⟩; have ht4 := HT3.out.trans (Trn.below hb4); obtain ⟨⟨d1, d2, d3, d4⟩, -⟩ := KB.out w4 ht4; have HT4 := hid ht4; have HD4 := hid (HD3.out.below hb4); clear hb4 ht4)
    | (have _ := HD2; go_at_call 33; refine (HCB.out _ n2 c D2 HD2.out (by have := HN.out; have := HN2.out; omega)).mono ?_; rintro e w3 ⟨rfl, ht3, n3, D3, hn3, hd3⟩; have ht03 := HT2.out.trans ht3; obtain ⟨⟨e31, e32, e33, e34⟩, htw3⟩ := KB.out w3 ht03; have HT3 := hid ht03; have HW3 := hid htw3; have HD3 := hid hd3; have HN3 := hid hn3; clear ht3 hd3 hn3 ht03 htw3)
    | (have _ := HD2; go_at_call 87; refine (HF.out _).mono ?_; rintro e w9 ⟨rfl, rfl⟩)
    | (go_at_call 33; refine (HC.out _ n c D HD0.out (by have := HN.out; omega)).mono ?_; rintro e w2 ⟨rfl, ht2, n2, D2, hn2, hd2⟩; obtain ⟨⟨d1, d2, d3, d4⟩, -⟩ := KB.out w2 ht2; have HT2 := hid ht2; have HD2 := hid hd2; have HN2 := hid hn2; clear ht2 hd2 hn2))
  go_region_held3 (fun w' => w'.cell? ⟨w.heap.size, 0, none⟩ = some (.map (some b)) ∧ w'.cell? ⟨w.heap.size, 1, none⟩ = some (.func (.func 81) #[] #[.pointer (some ⟨nb, 0, none⟩)]) ∧ w'.cell? ⟨w.heap.size + 1, 0, none⟩ = some (.iface nx vx) ∧ w'.cell? ⟨w.heap.size + 1, 1, none⟩ = some (.iface ny vy))
    (first | exact ⟨d1, d2, d3, d4⟩ | exact ⟨g51, g52, g53, g54⟩ | exact ⟨g41, g42, g43, g44⟩ | exact ⟨g31, g32, g33, g34⟩ | exact ⟨g21, g22, g23, g24⟩ | exact ⟨g11, g12, g13, g14⟩ | exact ⟨g01, g02, g03, g04⟩)
    (first
      | (have _ := HE4; go_at_call 63; refine (list_any [.atom wTo, tbit (.atom X) 0, .atom (nmB c), .node [.atom wIf, .atom (nmB c), A, B]] 4 _ 4 rfl (by decide) HL.out (by decide) _ (by simp) (HROW2.out _)).mono ?_; rintro e v7 ⟨rfl, hb7⟩; have ht7 := HS6.out.trans (Trn.below hb7); obtain ⟨⟨g51, g52, g53, g54⟩, hw7⟩ := KB.out v7 ht7; have HE7 := hid (HE6.out.below hb7); have HW7 := hid hw7; clear hb7 ht7 hw7)
      | (have _ := HE3; go_at_call 63; refine (list_any [.atom wIf, .atom (nmB c), A, B] 4 _ 4 rfl (by decide) HL0.out (by decide) _ (by simp) (HROW.out _)).mono ?_; rintro e v5 ⟨rfl, hb5⟩; have ht5 := HS4.out.trans (Trn.below hb5); obtain ⟨⟨g31, g32, g33, g34⟩, -⟩ := KB.out v5 ht5; have hdd := HE5.out.below hb5; have HE4 := hid hdd; have HS6 := hid (ht5.trans (Trn.alloc v5 (.cells #[.string ({ data := #[116, 111] } : ByteArray), .string (tbit (.atom X) 0).txt, .string (nmB c), .string (Tree.node [.atom wIf, .atom (nmB c), A, B]).txt] 9))); obtain ⟨⟨g41, g42, g43, g44⟩, -⟩ := KB.out _ HS6.out; have HE6 := hid (hdd.below ((Below.refl _ _).alloc (Nat.le_refl _) (.cells #[.string ({ data := #[116, 111] } : ByteArray), .string (tbit (.atom X) 0).txt, .string (nmB c), .string (Tree.node [.atom wIf, .atom (nmB c), A, B]).txt] 9))); clear hb5 ht5 hdd)
      | (have _ := HE2; go_at_call 65; refine (HC2.out _ m2 E2 HE2.out (by have := HN.out; have := HN2.out; have := HN3.out; have := HN5.out; have := HM2.out; omega)).mono ?_; rintro e v3 ⟨rfl, ht3, m3, E3, hn3, hd3⟩; have ht03 := HS2.out.trans ht3; obtain ⟨⟨g11, g12, g13, g14⟩, -⟩ := KB.out v3 ht03; have HS4 := hid (ht03.trans (Trn.alloc v3 (.cells #[.string ({ data := #[105, 102] } : ByteArray), .string (nmB c), .string A.txt, .string B.txt] 9))); obtain ⟨⟨g21, g22, g23, g24⟩, -⟩ := KB.out _ HS4.out; have HE5 := hid (hd3.below ((Below.refl _ _).alloc (Nat.le_refl _) (.cells #[.string ({ data := #[105, 102] } : ByteArray), .string (nmB c), .string A.txt, .string B.txt] 9))); have HM3 := hid hn3; have HE3 := hid hd3; clear ht3 hn3 hd3 ht03)
      | (go_at_call 35; refine (HC1.out w5.drew n5 D5 (HD5.out.below ((Below.refl _ _).drew)) (by have := HN.out; have := HN2.out; have := HN3.out; have := HN5.out; omega)).mono ?_; rintro e v2 ⟨rfl, ht2, m2, E2, hn2, hd2⟩; have ht02 := (HT5.out.trans (Trn.below ((Below.refl _ w5).drew))).trans ht2; obtain ⟨⟨g01, g02, g03, g04⟩, -⟩ := KB.out v2 ht02; have HS2 := hid ht02; have HM2 := hid hn2; have HE2 := hid hd2; clear ht2 hn2 hd2 ht02))
  go_wp2_with fail
  go_ret
  refine ⟨rfl, HW7.out, m3, E3, ?_, HE7.out⟩
  have := HN2.out; have := HN3.out; have := HN5.out; have := HM2.out; have := HM3.out; omega
end Go.Proofs.YtagifgekhboinaaGreatDoor

namespace Go.Proofs.YtagifgekhboinaaGreatDoor
open Go.RowKit Go.Maps

theorem DPost.up {b nb n k k' c : Nat} {t : ByteArray} {w w' : World} {e : Ending} (h : DPost b nb n k c t w e w') (hk : k ≤ k') : DPost b nb n k' c t w e w' :=
  let ⟨h1, h2, n', D', h3, h4⟩ := h
  ⟨h1, h2, n', D', by omega, h4⟩
theorem of_any (y : Ty) (yn : Nat) (hy : y.cnt = some yn) (hl : y.write.length ≤ 1000) (b nb : Nat) (W : World) (n c : Nat) (D : DataW Unit) (hd : DIn b nb n c D W) (hn : n + y.write.length ≤ 1000000) :
    Calls Tryz.prog 33 #[.map (some b), y.val] W fun e W' => e = .returned (.int .i64 (yn : Int)) ∧ Trn b nb W W' ∧ ∃ n' D', n' ≤ n + y.write.length ∧ DIn b nb n' c D' W' := by
  have h := count_any y (by omega) W b n D hd.own hd.good hn
  rw [hy] at h
  exact h.mono fun e w' hp => hd.count hp
theorem outcome_any (x : Ty) (st : Int) (k xn o b nb n c : Nat) (D : DataW Unit) (w : World) (hd : DIn b nb n c D w) (ho : outc (k : Int) st xn = (o : Int)) (hk : k ≤ 5000) (hx : x.cnt = some xn) (hkx : (k : Int) < (2 * (xn : Int) + 1) * (2 * (xn : Int) + 1)) (hxl : (Ty.ret x).write.length ≤ 1000)
    (hn : n + (x.write.length + x.dbud) ≤ 900000) (ho2 : o ≤ 2 * xn) (hsz : ∀ k c, (x.dt k c).1.write.length ≤ 5000)
    (HR : ∀ j, j < xn → ∀ W n D, DIn b nb n c D W → n + x.dbud ≤ 900000 → Calls Tryz.prog 35 #[.agg #[.map (some b), .func (.func 81) #[] #[.pointer (some ⟨nb, 0, none⟩)]], x.val, .int .i64 (j : Int)] W (DPost b nb n x.dbud (x.dt j c).2 (x.dt j c).1.txt W)) :
    Calls Tryz.prog 64 #[.agg #[.map (some b), .func (.func 81) #[] #[.pointer (some ⟨nb, 0, none⟩)]], .agg #[x.val], .int .i64 (k : Int), .int .i64 st] w (DPost b nb n (x.write.length + x.dbud) (outD (Ty.ret x).tree xn x.dt o c).2 (outD (Ty.ret x).tree xn x.dt o c).1.txt w) := by
  have hr := cnt_range x xn hx
  have hlx : x.write.length ≤ 1000 := by have : (Ty.ret x).write.length = x.write.length + 4 := by simp [Ty.write]
                                         omega
  unfold outD
  by_cases h0 : o = 0
  · rw [if_pos h0]
    exact (outcome_fail x st k xn o b nb n c D w hd ho hk hr.2 hkx hxl (fun W n c D h hn => of_any x xn hx hlx b nb W n c D h hn) h0 (by omega)).mono fun e w' h => h.up (by omega)
  · rw [if_neg h0]
    exact outcome_put x st k xn o b nb n c _ D _ w hd ho hk hr.1 hr.2 hkx (fun W n c D h hn => of_any x xn hx hlx b nb W n c D h hn) (by omega) (by omega) (hsz _ _) ho2
      (fun W n D h hn => HR ((o - 1) % xn) (Nat.mod_lt _ (by omega)) W n D h hn)
theorem outc_nat1 (k xn : Nat) (h : (k : Int) < (2 * (xn : Int) + 1) * (2 * (xn : Int) + 1)) : outc (k : Int) 1 xn = ((k / (2 * xn + 1) : Nat) : Int) := by
  rw [outc_one _ _ (by omega) h]; rfl
theorem outc_nat0 (k xn : Nat) : outc (k : Int) 0 xn = ((k % (2 * xn + 1) : Nat) : Int) := by
  unfold outc; rw [if_neg (by decide)]; rfl
theorem smt_len {t : Tree} {ty : Ty} (h : t.smt ty) (hl : ty.lt ≤ 12) : t.write.length ≤ 2400 := by
  have := h.2.2
  split at this <;> omega
theorem kn_len {t : Ty} (h : t.kn = true) (hl : t.lt ≤ 12) : t.write.length ≤ 150 := by
  have := (kn_bounds t h).2.2.1
  split at this <;> omega

/-- THE PROGRAM's DEFINING TERM of an element. -/
theorem define_any : ∀ (t : Ty), t.kn = true → t.lt ≤ 12 → ∀ (tn : Nat), t.cnt = some tn → ∀ (k : Nat), k < tn → ∀ (b nb n c : Nat) (D : DataW Unit) (w : World), DIn b nb n c D w → c + t.dnm < 99 → n + t.dbud ≤ 900000 →
    Calls Tryz.prog 35 #[.agg #[.map (some b), .func (.func 81) #[] #[.pointer (some ⟨nb, 0, none⟩)]], t.val, .int .i64 (k : Int)] w (DPost b nb n t.dbud (t.dt k c).2 (t.dt k c).1.txt w)
  | .bit, _, _, tn, hc, k, hk, b, nb, n, c, D, w, hd, _, _ => by
    simp [Ty.cnt] at hc; subst hc
    exact define_bit k b nb n c D w hd hk
  | .pair x y, hkn, hl, tn, hc, k, hk, b, nb, n, c, D, w, hd, hcc, hn => by
    have hr := cnt_range _ tn hc
    obtain ⟨xn, yn, hx, hy, rfl⟩ := cnt_pair hc
    simp only [Ty.kn, Bool.and_eq_true] at hkn
    have l1 := lt_pos x; have l2 := lt_pos y
    rw [Ty.lt] at hl
    have hry := cnt_range y yn hy
    have hly := kn_len hkn.1.1.2 (by omega)
    have e : y.cnt.getD 1 = yn := by rw [hy]; rfl
    have hnm := dt_nm x (k / yn) c
    rw [Ty.dbud] at hn ⊢
    rw [Ty.dnm] at hcc
    rw [Ty.dt, e]
    exact define_pair x y k yn b nb n c _ _ D _ _ w hd (by omega) (by omega) (by omega) (by have := smt_len (dt_sm x hkn.1.1.1 (k / yn) c) (by omega); omega) (by have := smt_len (dt_sm y hkn.1.1.2 (k % yn) (x.dt (k / yn) c).2) (by omega); omega) (by omega)
      (fun W n c D h hn => of_any y yn hy (by omega) b nb W n c D h hn)
      (fun W n D h hn => define_any x hkn.1.1.1 (by omega) xn hx (k / yn) (Nat.div_lt_of_lt_mul (by rw [Nat.mul_comm]; exact hk)) b nb n c D W h (by omega) hn)
      (fun W n D h hn => define_any y hkn.1.1.2 (by omega) yn hy (k % yn) (Nat.mod_lt _ (by omega)) b nb n _ D W h (by omega) hn)
  | .choice x y, hkn, hl, tn, hc, k, hk, b, nb, n, c, D, w, hd, hcc, hn => by
    have hr := cnt_range _ tn hc
    obtain ⟨xn, yn, hx, hy, rfl⟩ := cnt_choice hc
    simp only [Ty.kn, Bool.and_eq_true] at hkn
    have l1 := lt_pos x; have l2 := lt_pos y
    rw [Ty.lt] at hl
    have hry := cnt_range y yn hy
    have hly := kn_len hkn.1.1.2 (by omega)
    have e : y.cnt.getD 1 = yn := by rw [hy]; rfl
    have hnm := dt_nm x (k / yn) c
    rw [Ty.dbud] at hn ⊢
    rw [Ty.dnm] at hcc
    rw [Ty.dt, e]
    exact define_choice x y k yn b nb n c _ _ D _ _ w hd (by omega) (by omega) (by omega) (by have := smt_len (dt_sm x hkn.1.1.1 (k / yn) c) (by omega); omega) (by have := smt_len (dt_sm y hkn.1.1.2 (k % yn) (x.dt (k / yn) c).2) (by omega); omega) (by omega)
      (fun W n c D h hn => of_any y yn hy (by omega) b nb W n c D h hn)
      (fun W n D h hn => define_any x hkn.1.1.1 (by omega) xn hx (k / yn) (Nat.div_lt_of_lt_mul (by rw [Nat.mul_comm]; exact hk)) b nb n c D W h (by omega) hn)
      (fun W n D h hn => define_any y hkn.1.1.2 (by omega) yn hy (k % yn) (Nat.mod_lt _ (by omega)) b nb n _ D W h (by omega) hn)
  | .thunk x, hkn, hl, tn, hc, k, hk, b, nb, n, c, D, w, hd, hcc, hn => by
    simp only [Ty.kn, Bool.and_eq_true] at hkn
    rw [Ty.cnt] at hc
    rw [Ty.lt] at hl
    rw [Ty.dbud] at hn ⊢
    rw [Ty.dnm] at hcc
    rw [Ty.dt]
    exact define_thunk x k b nb n c _ D _ w hd (by have := smt_len (dt_sm x hkn.1 k c) hl; omega) hn
      (fun W n D h hn => define_any x hkn.1 hl tn hc k hk b nb n c D W h hcc hn)
  | .ret x, hkn, hl, tn, hc, k, hk, b, nb, n, c, D, w, hd, hcc, hn => by
    have hr := cnt_range _ tn hc
    have hkn0 := hkn
    have hll := kn_len hkn hl
    obtain ⟨xn, hx, rfl⟩ := cnt_ret hc
    simp only [Ty.kn, Bool.and_eq_true] at hkn
    rw [Ty.lt] at hl
    have hrx := cnt_range x xn hx
    have e : x.cnt.getD 1 = xn := by rw [hx]; rfl
    have hkx : (k : Int) < (2 * (xn : Int) + 1) * (2 * (xn : Int) + 1) := by exact_mod_cast hk
    have hsz : ∀ k c, (x.dt k c).1.write.length ≤ 5000 := fun k c => by have := smt_len (dt_sm x hkn.1 k c) (by omega); omega
    have hnm := outD_nm (a := x) (n := xn) (o := k / (2 * xn + 1)) (c := c + 1) (tr := (Ty.ret x).tree) (dt_nm x)
    have s1 := outD_sm hkn0 (n := xn) (o := k / (2 * xn + 1)) (c := c + 1) (dt_sm x hkn.1)
    have s2 := outD_sm hkn0 (n := xn) (o := k % (2 * xn + 1)) (c := (outD (Ty.ret x).tree xn x.dt (k / (2 * xn + 1)) (c + 1)).2) (dt_sm x hkn.1)
    have o1 : k / (2 * xn + 1) ≤ 2 * xn := Nat.le_of_lt_succ (Nat.div_lt_of_lt_mul hk)
    have o0 : k % (2 * xn + 1) ≤ 2 * xn := Nat.le_of_lt_succ (Nat.mod_lt _ (by omega))
    rw [Ty.dbud] at hn ⊢
    rw [Ty.dnm] at hcc
    rw [Ty.dt, e]
    exact define_ret x k b nb n c _ _ D _ _ w hd (by omega) (by omega) (by omega) hn
      (fun W n D h hn => outcome_any x 1 k xn (k / (2 * xn + 1)) b nb n (c + 1) D W h (outc_nat1 k xn hkx) (by omega) hx hkx (by omega) hn o1 hsz
        (fun j hj W n D h hn => define_any x hkn.1 (by omega) xn hx j hj b nb n (c + 1) D W h (by omega) hn))
      (fun W n D h hn => outcome_any x 0 k xn (k % (2 * xn + 1)) b nb n _ D W h (outc_nat0 k xn) (by omega) hx hkx (by omega) hn o0 hsz
        (fun j hj W n D h hn => define_any x hkn.1 (by omega) xn hx j hj b nb n _ D W h (by omega) hn))
  | .fn a y, hkn, hl, tn, hc, k, hk, b, nb, n, c, D, w, hd, hcc, hn => by
    have hr := cnt_range _ tn hc
    simp only [Ty.kn, Bool.and_eq_true, Bool.not_eq_true', beq_iff_eq] at hkn
    have ha : a = .bit := by cases a <;> simp [Ty.write] at hkn ⊢
    subst ha
    obtain ⟨x2, yn, hx, hy, rfl, _⟩ := cnt_fn hc
    have e2 : x2 = 2 := by simp [Ty.cnt] at hx; omega
    subst e2
    rw [Ty.lt] at hl
    have hry := cnt_range y yn hy
    have hly := kn_len hkn.1.2 (by omega)
    have e : y.cnt.getD 1 = yn := by rw [hy]; rfl
    have hnm := dt_nm y (k % yn) (c + 2)
    have hnm2 := dt_nm y (k / yn % yn) (y.dt (k % yn) (c + 2)).2
    have s1 := smt_len (dt_sm y hkn.1.2 (k % yn) (c + 2)) (by omega)
    have s2 := smt_len (dt_sm y hkn.1.2 (k / yn % yn) (y.dt (k % yn) (c + 2)).2) (by omega)
    have f0 : atN k yn 0 = k % yn := by simp [atN]
    have f1 : atN k yn 1 = k / yn % yn := by simp [atN]
    have hbw : Ty.bit.write.length = 1 := rfl
    have hnl := nm_len c
    have hnl1 := nm_len (c + 1)
    have hof : ∀ W n c D, DIn b nb n c D W → n + 1 ≤ 1000000 → Calls Tryz.prog 33 #[.map (some b), Ty.bit.val] W fun e W' => e = .returned (.int .i64 2) ∧ Trn b nb W W' ∧ ∃ n' D', n' ≤ n + 1 ∧ DIn b nb n' c D' W' :=
      fun W n c D h hn => of_any .bit 2 rfl (by decide) b nb W n c D h hn
    have htl : (tbit (.atom (nmB c)) 0).write.length ≤ 40 := by
      have h0 := retB_len 0; have h1 := retB_len 1
      rw [tbit, if_neg (by decide)]
      simp only [Tree.write, Tree.writes, List.length_cons, List.length_append, List.length_nil, wIf, h0, h1]; omega
    rw [Ty.dbud, hbw] at hn ⊢
    rw [Ty.dnm] at hcc
    rw [Ty.dt, e]
    have hM : (Tree.node [.atom wTo, tbit (.atom (nmB c)) 0, .atom (nmB (c + 1)), .node [.atom wIf, .atom (nmB (c + 1)), (y.dt (k % yn) (c + 2)).1, (y.dt (k / yn % yn) (y.dt (k % yn) (c + 2)).2).1]]).write.length ≤ 10000 := by
      simp only [Tree.write, Tree.writes, List.length_cons, List.length_append, List.length_nil, wTo, wIf]; omega
    exact define_fn y k b nb n _ c _ D _ w hd (by omega) hM (by omega)
      (fun W n D h hn => (from_first y k yn b nb n (c + 1) _ _ D _ _ (nmB c) W h (by omega) (by omega) (by omega) (fun W n c D h hn => of_any y yn hy (by omega) b nb W n c D h hn) hof (by omega) hnl (by omega) (by omega) (by omega)
        (fun W n D h hn => by rw [f0]; exact define_any y hkn.1.2 (by omega) yn hy (k % yn) (Nat.mod_lt _ (by omega)) b nb n (c + 2) D W h (by omega) hn)
        (fun W n D h hn => from_last y k yn b nb n _ _ D _ (nmB c) W h (by omega) (by omega) (by omega) (fun W n c D h hn => of_any y yn hy (by omega) b nb W n c D h hn) hof hn
          (fun W n D h hn => by rw [f1]; exact define_any y hkn.1.2 (by omega) yn hy (k / yn % yn) (Nat.mod_lt _ (by omega)) b nb n _ D W h (by omega) hn))).mono fun e w' h => h.up (by omega))
end Go.Proofs.YtagifgekhboinaaGreatDoor

namespace Go.Proofs.YtagifgekhboinaaGreatDoor
open Go.RowKit

set_option maxRecDepth 100000 in
set_option maxHeartbeats 4000000 in
theorem l6dCases_last (y : Ty) (k yn mb c c1 a m : Nat) (S : Nat → Prop) (hS : Own mb S) (ta : ByteArray) (tp : Option Addr) (tl tc : Nat) (na : ByteArray) (np : Option Addr) (nl nc : Nat) (w : World) (ht : TIn w S (Ty.fn .bit y).tree ⟨ta, tp, tl, tc⟩) (hM : MIn mb c a w) (hwf : (Ty.fn .bit y).wf = true) (hy : y.cnt = some yn) (hk : k ≤ 5000) (V : Tree)
    (H : ∀ (S : Nat → Prop) (h : Hd) W, Own mb S → TIn W S y.tree h → MIn mb c a W → Calls Tryz.prog 23 #[.pointer (some ⟨mb, 0, none⟩), .agg #[.string h.a, .slice h.p h.l h.c], .int .i64 ((atN k yn 1 : Nat) : Int)] W (LPost mb c1 a m S V W)) :
    Calls Tryz.prog 51 #[.pointer (some ⟨mb, 0, none⟩), .agg #[.string ta, .slice tp tl tc], .int .i64 (k : Int), .agg #[.string na, .slice np nl nc], .int .i64 1] w (LPost mb c1 a m S V w) := by
  have hlt := hM.lt
  obtain ⟨tb, b0, b1, b2, q0, q1, q2, l0, l1, l2, c0, cc1, cc2, rfl, rfl, rfl, hc3, hcm, hSb, -, g2, g3, g4, g5, -, hx1, hx2⟩ := node_three (p0 := .atom ⟨#[62]⟩) (p1 := Ty.bit.tree) (p2 := y.tree) ht
  have hbm : tb ≠ mb := hS tb hSb
  have htl : tb < w.heap.size := World.block_lt_of_cell? w _ g2
  have hr := cnt_range y yn hy
  have HO := hid (hS.bt hlt (w.heap.size + 1 + 1))
  have hg0 : w.grownBy (((w.alloc (.cells #[.string ({ data := #[] } : ByteArray), .slice (some ⟨tb, 0, none⟩) 3 tc] 48)).alloc (.cells #[.string na, .slice np nl nc] 48)).alloc (.cells #[.string ({ data := #[] } : ByteArray), .slice none 0 0] 48)) (some mb) := ((World.grownBy_alloc w (.cells #[.string ({ data := #[] } : ByteArray), .slice (some ⟨tb, 0, none⟩) 3 tc] 48) (some mb)).trans (World.grownBy_alloc (w.alloc (.cells #[.string ({ data := #[] } : ByteArray), .slice (some ⟨tb, 0, none⟩) 3 tc] 48)) (.cells #[.string na, .slice np nl nc] 48) (some mb))).trans (World.grownBy_alloc _ (.cells #[.string ({ data := #[] } : ByteArray), .slice none 0 0] 48) (some mb))
  have HT0 := hid (show TIn (((w.alloc (.cells #[.string ({ data := #[] } : ByteArray), .slice (some ⟨tb, 0, none⟩) 3 tc] 48)).alloc (.cells #[.string na, .slice np nl nc] 48)).alloc (.cells #[.string ({ data := #[] } : ByteArray), .slice none 0 0] 48)) (Bt w (w.heap.size + 1 + 1) S) (Ty.fn .bit y).tree ⟨({ data := #[] } : ByteArray), some ⟨tb, 0, none⟩, 3, tc⟩ from ht.enter hg0 hS)
  have HX0 := hid (show TIn (((w.alloc (.cells #[.string ({ data := #[] } : ByteArray), .slice (some ⟨tb, 0, none⟩) 3 tc] 48)).alloc (.cells #[.string na, .slice np nl nc] 48)).alloc (.cells #[.string ({ data := #[] } : ByteArray), .slice none 0 0] 48)) (Bt w (w.heap.size + 1 + 1) S) Ty.bit.tree ⟨b1, q1, l1, cc1⟩ from hx1.enter hg0 hS)
  have HY0 := hid (show TIn (((w.alloc (.cells #[.string ({ data := #[] } : ByteArray), .slice (some ⟨tb, 0, none⟩) 3 tc] 48)).alloc (.cells #[.string na, .slice np nl nc] 48)).alloc (.cells #[.string ({ data := #[] } : ByteArray), .slice none 0 0] 48)) (Bt w (w.heap.size + 1 + 1) S) y.tree ⟨b2, q2, l2, cc2⟩ from hx2.enter hg0 hS)
  have HM0 := hid (show MIn mb c a (((w.alloc (.cells #[.string ({ data := #[] } : ByteArray), .slice (some ⟨tb, 0, none⟩) 3 tc] 48)).alloc (.cells #[.string na, .slice np nl nc] 48)).alloc (.cells #[.string ({ data := #[] } : ByteArray), .slice none 0 0] 48)) from hM.below ((((Below.refl _ _).alloc (Nat.le_refl _) _).alloc (by simp) _).alloc (by simp; omega) _))
  have KB := hid (fun W (h : (((w.alloc (.cells #[.string ({ data := #[] } : ByteArray), .slice (some ⟨tb, 0, none⟩) 3 tc] 48)).alloc (.cells #[.string na, .slice np nl nc] 48)).alloc (.cells #[.string ({ data := #[] } : ByteArray), .slice none 0 0] 48)).grownBy W (some mb)) => (show (W.cell? ⟨w.heap.size, 0, none⟩ = some (.string ({ data := #[] } : ByteArray)) ∧ W.cell? ⟨w.heap.size, 1, none⟩ = some (.slice (some ⟨tb, 0, none⟩) 3 tc) ∧ W.cell? ⟨w.heap.size + 1, 0, none⟩ = some (.string na) ∧ W.cell? ⟨w.heap.size + 1, 1, none⟩ = some (.slice np nl nc) ∧ W.cell? ⟨tb, 2, none⟩ = some (.string b1) ∧ W.cell? ⟨tb, 3, none⟩ = some (.slice q1 l1 cc1) ∧ W.cell? ⟨tb, 4, none⟩ = some (.string b2) ∧ W.cell? ⟨tb, 5, none⟩ = some (.slice q2 l2 cc2)) ∧ W.heap[w.heap.size + 1 + 1]? = some (.cells #[.string ({ data := #[] } : ByteArray), .slice none 0 0] 48) ∧ w.grownBy W (some mb) ∧ w.heap.size + 3 ≤ W.heap.size from by
    have h1 := block_grown (block_grown (block_grown (heap_new w (.cells #[.string ({ data := #[] } : ByteArray), .slice (some ⟨tb, 0, none⟩) 3 tc] 48) _ rfl) (World.grownBy_alloc _ (.cells #[.string na, .slice np nl nc] 48) none) (by simp)) (World.grownBy_alloc _ (.cells #[.string ({ data := #[] } : ByteArray), .slice none 0 0] 48) none) (by simp)) h (by simp; omega)
    have h2 := block_grown (block_grown (heap_new (w.alloc (.cells #[.string ({ data := #[] } : ByteArray), .slice (some ⟨tb, 0, none⟩) 3 tc] 48)) (.cells #[.string na, .slice np nl nc] 48) (w.heap.size + 1) (by simp)) (World.grownBy_alloc _ (.cells #[.string ({ data := #[] } : ByteArray), .slice none 0 0] 48) none) (by simp)) h (by simp; omega)
    have h3 := block_grown (heap_new ((w.alloc (.cells #[.string ({ data := #[] } : ByteArray), .slice (some ⟨tb, 0, none⟩) 3 tc] 48)).alloc (.cells #[.string na, .slice np nl nc] 48)) (.cells #[.string ({ data := #[] } : ByteArray), .slice none 0 0] 48) (w.heap.size + 1 + 1) (by simp)) h (by simp; omega)
    have hsz := h.size
    simp at hsz
    have hg := hg0.trans h
    exact ⟨⟨Trn.cell h1 rfl, Trn.cell h1 rfl, Trn.cell h2 rfl, Trn.cell h2 rfl, cell_keptM g2 hg hbm, cell_keptM g3 hg hbm, cell_keptM g4 hg hbm, cell_keptM g5 hg hbm⟩, h3, hg, by omega⟩))
  have HC := hid (fun W (h : TIn W (Bt w (w.heap.size + 1 + 1) S) Ty.bit.tree ⟨b1, q1, l1, cc1⟩) => (show Calls Tryz.prog 21 #[.agg #[.string b1, .slice q1 l1 cc1]] W fun e w' => e = .returned (.int .i64 2) ∧ Below W.heap.size W w' from l1Count_any h .bit (tree_ty .bit rfl) W (Kept.refl _) (Nat.le_refl _)))
  have j1 : (0 : Int) ≤ 1 ∧ (1 : Int) < 3 := by decide
  have j2 : (0 : Int) ≤ 2 ∧ (2 : Int) < 3 := by decide
  have hcm' : tc ≤ 9223372036854775807 := by unfold maxLen at hcm; omega
  have HA := hid (fun W (h : TIn W (Bt w (w.heap.size + 1 + 1) S) (Ty.fn .bit y).tree ⟨({ data := #[] } : ByteArray), some ⟨tb, 0, none⟩, 3, tc⟩) => (show Calls Tryz.prog 73 #[.agg #[.string ({ data := #[] } : ByteArray), .slice (some ⟨tb, 0, none⟩) 3 tc], .int .i64 (k : Int), .int .i64 1] W fun e w' => e = .returned (.int .i64 ((atN k yn 1 : Nat) : Int)) ∧ Below W.heap.size W w' from l1At_any h .bit y yn (tree_ty _ hwf) hy hr.1 hr.2 k 1 hk (by decide) W (Kept.refl _) (Nat.le_refl _)))
  have HD := hid (fun W (h : TIn W (Bt w (w.heap.size + 1 + 1) S) y.tree ⟨b2, q2, l2, cc2⟩) (hm : MIn mb c a W) => H (Bt w (w.heap.size + 1 + 1) S) ⟨b2, q2, l2, cc2⟩ W HO.out h hm)
  obtain ⟨r, hrr⟩ : ∃ r, atN k yn 1 = r := ⟨_, rfl⟩
  rw [hrr] at HA HD
  obtain ⟨d1, d2, d3, d4, d5, d6, d7, d8⟩ := (KB.out _ (World.grownBy.refl _ _)).1
  clear hS ht hM hg0 hx1 hx2 g2 g3 g4 g5 H hwf hy hrr hSb hcm hk
  go_enter Tryz.func51, Tryz.ntmps51
  go_wp2_with (go_at_call 21; refine (HC.out _ HX0.out).mono ?_; rintro e w1 ⟨rfl, hb1⟩; have hg1 := grown_any hb1 (some mb); obtain ⟨⟨e11, e12, e13, e14, e15, e16, e17, e18⟩, -, -, hz1⟩ := KB.out w1 hg1; have HG1 := hid hg1; have HM1 := hid (HM0.out.below hb1); have HT1 := hid (HT0.out.keepM hg1 HO.out); have HY1 := hid (HY0.out.keepM hg1 HO.out); clear hb1 hg1)
  go_region_held3 (fun W => W.cell? ⟨w.heap.size, 0, none⟩ = some (.string ({ data := #[] } : ByteArray)) ∧ W.cell? ⟨w.heap.size, 1, none⟩ = some (.slice (some ⟨tb, 0, none⟩) 3 tc) ∧ W.cell? ⟨w.heap.size + 1, 0, none⟩ = some (.string na) ∧ W.cell? ⟨w.heap.size + 1, 1, none⟩ = some (.slice np nl nc) ∧ W.cell? ⟨tb, 2, none⟩ = some (.string b1) ∧ W.cell? ⟨tb, 3, none⟩ = some (.slice q1 l1 cc1) ∧ W.cell? ⟨tb, 4, none⟩ = some (.string b2) ∧ W.cell? ⟨tb, 5, none⟩ = some (.slice q2 l2 cc2))
    (first | exact ⟨e11, e12, e13, e14, e15, e16, e17, e18⟩ | exact ⟨e41, e42, e43, e44, e45, e46, e47, e48⟩ | exact ⟨e31, e32, e33, e34, e35, e36, e37, e38⟩ | exact ⟨e21, e22, e23, e24, e25, e26, e27, e28⟩)
    (first
      | (have _ := HM2; go_at_call 23; refine (HD.out w2 HY2.out HM2.out).mono ?_; rintro e w3 ⟨⟨va, vp, vl, vc⟩, a2, rfl, hg3, ha2, hm3, ht3⟩; have hg03 := HG2.out.trans hg3; obtain ⟨⟨e31, e32, e33, e34, e35, e36, e37, e38⟩, hr3, hw3, hz3⟩ := KB.out w3 hg03; obtain ⟨k1, k2, k3, k4⟩ := cells_of_pair hr3; have hgp := grown_pair w3 (w.heap.size + 1 + 1) (.string va) (.slice vp vl vc); have e41 := cell_keptM e31 hgp (by omega); have e42 := cell_keptM e32 hgp (by omega); have e43 := cell_keptM e33 hgp (by omega); have e44 := cell_keptM e34 hgp (by omega); have e45 := cell_keptM e35 hgp (by omega); have e46 := cell_keptM e36 hgp (by omega); have e47 := cell_keptM e37 hgp (by omega); have e48 := cell_keptM e38 hgp (by omega); have HT3 := hid (ht3.aft (r := w.heap.size + 1 + 1) (w := w) (by have := HZ2.out; omega) (by have := HZ2.out; omega)); have HW3 := hid hw3; have HR3 := hid hr3; have HM3 := hid hm3; have HA3 := hid ha2; clear hg3 ha2 hm3 ht3 hg03 hr3 hw3 hgp)
      | (go_at_call 73; refine (HA.out w1.drew (HT1.out.keepM (grown_any ((Below.refl _ _).drew) (some mb)) HO.out)).mono ?_; rintro e w2 ⟨rfl, hb2⟩; have hgd := grown_any (((Below.refl w1.heap.size w1).drew).trans hb2) (some mb); have hg02 := HG1.out.trans hgd; obtain ⟨⟨e21, e22, e23, e24, e25, e26, e27, e28⟩, -, -, hz2⟩ := KB.out w2 hg02; have HG2 := hid hg02; have HZ2 := hid hz2; have HM2 := hid (HM1.out.below (((Below.refl w1.heap.size w1).drew).trans hb2)); have HY2 := hid (HY1.out.keepM hgd HO.out); clear hb2 hgd hg02 hz2))
  go_wp2_with fail
  have hx := cells_of_pair (set_pair (set_pair HR3.out (.string va)).1 (.slice vp vl vc)).2
  refine bodyPost_ret (v := .agg #[.string va, .slice vp vl vc]) (by simp [results, Tryz.results51, go_sem, hx.1, hx.2.1]) rfl ?_
  exact LPost.res HT3.out HW3.out HM3.out HA3.out (by omega) hlt
end Go.Proofs.YtagifgekhboinaaGreatDoor
