/- The walk of a term's text: write, text. -/
import Derived.Test.YtfogjomebcponaaDoorWriteT
import Derived.Lib.AtoiErrMem
namespace Go.Proofs.YtfogjomebcponaaDoor
open Go.RowKit

theorem dl_size (a : ByteArray) : a.data.toList.length = a.size := Array.length_toList
theorem bc_append (a b : List UInt8) : Lib.byteCells (a ++ b) = Lib.byteCells a ++ Lib.byteCells b := by simp [Lib.byteCells]
theorem bd_bytes {B b : Nat} {g : Option Nat} {acc l : List UInt8} {v : Value} {w : World} {e : Ending} {w' : World} {x : List Value} (h : BdPost B b g (Lib.byteCells acc ++ x) v w e w') (hx : x = Lib.byteCells l) : BdPost B b g (Lib.byteCells (acc ++ l)) v w e w' := by
  rw [bc_append, ← hx]; exact h
theorem upW_size (l : List Sg) : (upS l).size = l.length := by simp [upS, ByteArray.size]
theorem upW_get (l : List Sg) (i : Nat) (c : Sg) (h : l[i]? = some c) : (upS l).data.toList.getD i 0 = c.up := by
  simp [upS, h]
theorem shape_len (h : List UInt8) : (shape h).length ≤ 4 := by
  rcases shape_mem h with ⟨_, e⟩ | ⟨_, e⟩
  · rw [e]; decide
  · rcases e with e | e | e | e | e | e | e | e | e | e | e | e <;> (rw [e]; decide)
theorem weave_X {cs : List Sg} {bs : List ByteArray} {ty : Option Ty} {ks : List (List UInt8)} {x : ByteArray} : weave (.X :: cs) (x :: bs) ty ks = 32 :: (x.data.toList ++ weave cs bs ty ks) := by rw [weave]
theorem weave_stepX {cs : List Sg} {bs : List ByteArray} {ty : Option Ty} {W : List (List UInt8)} {i i0 : Nat} {x : ByteArray} (hc : cs[i]? = some .X) (hx : bs[i0]? = some x) :
    weave (cs.drop i) (bs.drop i0) ty W = 32 :: (x.data.toList ++ weave (cs.drop (i + 1)) (bs.drop (i0 + 1)) ty W) := by
  rw [drop_at hc, drop_at hx, weave]
theorem weave_stepT {cs : List Sg} {bs : List ByteArray} {ty : Option Ty} {W : List (List UInt8)} {i : Nat} {d : Sg} (hc : cs[i]? = some d) (hd : d.isT = true) :
    weave (cs.drop i) bs ty W = 32 :: (tyText ty ++ weave (cs.drop (i + 1)) bs ty W) := by
  rw [drop_at hc]
  cases d <;> first | (rw [weave]; done) | cases hd
theorem weave_stepK {cs : List Sg} {bs : List ByteArray} {ty : Option Ty} {ks : List Tm} {i j : Nat} {d : Sg} {k : Tm} (hc : cs[i]? = some d) (hd : d.isK = true) (hk : ks[j]? = some k) :
    weave (cs.drop i) bs ty (Tm.writes (ks.drop j)) = 32 :: (k.write ++ weave (cs.drop (i + 1)) bs ty (Tm.writes (ks.drop (j + 1)))) := by
  rw [drop_at hc, drop_at hk, Tm.writes]
  cases d <;> first | (rw [weave]; done) | cases hd
theorem weave_mem (ty : Option Ty) : ∀ (cs : List Sg) (bs : List ByteArray) (ks : List (List UInt8)), bs.length = cs.countP Sg.isX → ks.length = cs.countP Sg.isK →
    (∀ k ∈ ks, k.length ≤ (weave cs bs ty ks).length) ∧ (cs.countP Sg.isT ≠ 0 → (tyText ty).length ≤ (weave cs bs ty ks).length)
  | [], bs, ks, _, hk => by
    have : ks = [] := List.eq_nil_of_length_eq_zero (by simpa using hk)
    subst this; simp
  | .X :: cs, [], ks, hb, _ => by simp [List.countP_cons, Sg.isX] at hb
  | .X :: cs, x :: bs, ks, hb, hk => by
    have h := weave_mem ty cs bs ks (by simpa [List.countP_cons, Sg.isX] using hb) (by simpa [List.countP_cons, Sg.isK] using hk)
    rw [weave, List.length_cons, List.length_append]
    exact ⟨fun k hk => by have := h.1 k hk; omega, fun ht => by have := h.2 (by simpa [List.countP_cons, Sg.isT] using ht); omega⟩
  | .A :: cs, bs, ks, hb, hk => by
    have h := weave_mem ty cs bs ks (by simpa [List.countP_cons, Sg.isX] using hb) (by simpa [List.countP_cons, Sg.isK] using hk)
    rw [weave, List.length_cons, List.length_append]
    exact ⟨fun k hk => by have := h.1 k hk; omega, fun ht => by omega⟩
  | .C :: cs, bs, ks, hb, hk => by
    have h := weave_mem ty cs bs ks (by simpa [List.countP_cons, Sg.isX] using hb) (by simpa [List.countP_cons, Sg.isK] using hk)
    rw [weave, List.length_cons, List.length_append]
    exact ⟨fun k hk => by have := h.1 k hk; omega, fun ht => by omega⟩
  | .V :: cs, bs, [], _, hk => by simp [List.countP_cons, Sg.isK] at hk
  | .V :: cs, bs, k0 :: ks, hb, hk => by
    have h := weave_mem ty cs bs ks (by simpa [List.countP_cons, Sg.isX] using hb) (by simpa [List.countP_cons, Sg.isK] using hk)
    rw [weave, List.length_cons, List.length_append]
    refine ⟨fun k hk => ?_, fun ht => by have := h.2 (by simpa [List.countP_cons, Sg.isT] using ht); omega⟩
    rcases List.mem_cons.1 hk with rfl | hk
    · omega
    · have := h.1 k hk; omega
  | .M :: cs, bs, [], _, hk => by simp [List.countP_cons, Sg.isK] at hk
  | .M :: cs, bs, k0 :: ks, hb, hk => by
    have h := weave_mem ty cs bs ks (by simpa [List.countP_cons, Sg.isX] using hb) (by simpa [List.countP_cons, Sg.isK] using hk)
    rw [weave, List.length_cons, List.length_append]
    refine ⟨fun k hk => ?_, fun ht => by have := h.2 (by simpa [List.countP_cons, Sg.isT] using ht); omega⟩
    rcases List.mem_cons.1 hk with rfl | hk
    · omega
    · have := h.1 k hk; omega
theorem writes_length (ks : List Tm) : (Tm.writes ks).length = ks.length := by
  induction ks with
  | nil => rfl
  | cons x ks ih => simp [Tm.writes, ih]
theorem count_step {cs : List Sg} {i : Nat} {d : Sg} (p : Sg → Bool) (hc : cs[i]? = some d) : (cs.drop i).countP p = (cs.drop (i + 1)).countP p + (if p d = true then 1 else 0) := by
  rw [drop_at hc, List.countP_cons]
theorem count_pos {cs : List Sg} {i : Nat} {d : Sg} (p : Sg → Bool) (hc : cs[i]? = some d) (hd : p d = true) : cs.countP p ≠ 0 := by
  intro e
  have := List.countP_eq_zero.1 e d (List.mem_of_getElem? hc)
  exact this hd
/-- Where a slice of a row has come to, behind so many elements. -/
def At (bp p : Option Addr) (i n : Nat) : Prop := i < n → ∃ g, bp = some ⟨g, 0, none⟩ ∧ p = some ⟨g, i, none⟩

set_option maxRecDepth 100000 in
set_option maxHeartbeats 4000000 in
theorem write_big {w0 : World} {S : Nat → Prop} {m : Tm} {b : Nat} (hn : NIn w0 S m b) : m.fit → m.write.length ≤ 20000 → ∀ (w : World) (B bb : Nat) (g : Option Nat) (acc : List UInt8), Kept w0 w → w0.heap.size ≤ B → B ≤ w.heap.size → Bd w B bb g (Lib.byteCells acc) → acc.length + m.write.length ≤ 500000 →
    Calls Tryd.prog 25 #[.pointer (some ⟨b, 0, none⟩), .pointer (some ⟨bb, 0, none⟩)] w (BdPost B bb g (Lib.byteCells (acc ++ m.write)) (.tuple #[]) w) := by
  induction hn with
  | mk hd a d bs ty ks b bp bl bc kp kl kc A hS hb hbl hkl hbn hbv hkv hks ih =>
    intro hfit hwl w B bb g acc hk hB hBw hbd hal
    have hlt0 := lt_of_block hb
    have hrow := hbd.row_ge
    have hbb := hbd.lt
    have hBb : B ≤ bb := hbd.1
    have c := cells_of_six ((hk b hlt0).trans hb)
    have c0 := c.1
    have c1 := c.2.1
    cases ha : a.toList.isEmpty with
    | false =>
      have hne : a.toList ≠ [] := by intro e; rw [e] at ha; cases ha
      have hw : (Tm.mk hd a d bs ty ks).write = a.data.toList := by rw [Tm.write, if_neg hne]
      rw [hw] at hwl hal ⊢
      have has : a.size ≤ 20000 := by rw [← dl_size]; exact hwl
      have hab : (a.toList == []) = false := by rw [beq_eq_false_iff_ne]; exact hne
      have HC := hid (writeString_any B bb g (Lib.byteCells acc) a w hbd (by simp [Lib.byteCells_length]; omega) (by omega) hBw)
      clear ih hk hb hbn hbv hS c hkl hkv hks hbl hbd hne hw hwl hfit hrow
      go_enter Tryd.func25, Tryd.ntmps25
      go_wp2_with (go_at_call 38; refine HC.out.mono ?_; rintro e w1 ⟨rfl, g1, h1⟩; have H1 := hid h1; clear h1)
      go_end0
      rw [bc_append]
      exact ⟨rfl, g1, H1.out.1, H1.out.2⟩
    | true =>
      have hae : a.toList = [] := by simpa using ha
      have hab : (a.toList == []) = true := by simpa using hae
      rw [Tm.fit] at hfit
      obtain ⟨hff, hkf⟩ := hfit
      obtain ⟨hfx, hfk, hft⟩ := hff hae
      have hw : (Tm.mk hd a d bs ty ks).write = 40 :: (hd.data.toList ++ (weave (shape hd.toList) bs ty (Tm.writes ks) ++ [41])) := by rw [Tm.write, if_pos hae]
      rw [hw] at hwl hal ⊢
      have hsl := shape_len hd.toList
      obtain ⟨cs, hcs⟩ : ∃ cs, shape hd.toList = cs := ⟨_, rfl⟩
      have HF := hid (fun W => formOf_any hd W)
      rw [hcs] at hfx hfk hft hwl hal hsl HF ⊢
      have hlen : (40 :: (hd.data.toList ++ (weave cs bs ty (Tm.writes ks) ++ [41]))).length = hd.size + (weave cs bs ty (Tm.writes ks)).length + 2 := by
        rw [List.length_cons, List.length_append, List.length_append, dl_size]; simp only [List.length_cons, List.length_nil]; omega
      rw [hlen] at hwl hal
      obtain ⟨s0, hs0⟩ : ∃ s0, s0 = (({ data := #[40] } : ByteArray) ++ hd) := ⟨_, rfl⟩
      have hs0l : s0.data.toList = 40 :: hd.data.toList := by rw [hs0]; rfl
      have hs0s : s0.size = hd.size + 1 := by rw [← dl_size, hs0l, List.length_cons, dl_size]
      have HC1 := hid (writeString_any B bb g (Lib.byteCells acc) s0 w hbd (by rw [Lib.byteCells_length]; omega) (by omega) hBw)
      have HS0 := hid hs0
      have HS0L := hid hs0l
      obtain ⟨F, hFF⟩ : ∃ F, upS cs = F := ⟨_, rfl⟩
      have hFs := upW_size cs
      have HFG := hid (fun i c h => upW_get cs i c h)
      rw [hFF] at hFs HFG HF
      have hF4 : F.size ≤ 4 := by omega
      have hconv := fun W => Lib.run_convert_string_bytes (P := Tryd.prog) W 9 64 5 F Tryd.underlying9 Tryd.underlying64 Tryd.underlying5
      have HB0 := hid hb
      have HK := hid hk
      have HFS := hid hFs
      clear hFF hs0 hs0l
      go_enter Tryd.func25, Tryd.ntmps25
      go_wp2_with (go_at_call 38; rw [← HS0.out]; refine HC1.out.mono ?_; rintro e w1 ⟨rfl, g1, h1⟩; have H1 := hid h1; clear h1)
      have hx1 := H1.out.2
      have hbe1 : Below B w w1 := hx1.to_below hBb hBw (fun k e => (hrow k e).1)
      have s1 := hx1.size
      have hk1 : Kept w0 w1 := hk.below hbe1 hB
      have cw := cells_of_six ((hk1 b hlt0).trans hb)
      have e0 := cw.1
      have e3 := cw.2.2.2.1
      have e5 := cw.2.2.2.2.2.1
      have HBD1 := hid H1.out.1
      have HX1 := hid hx1
      have HBL := hid hbl
      have HKL := hid hkl
      have HKV := hid hkv
      have HBV := hid hbv
      have HIH := hid ih
      have HFX := hid hfx
      have HFK := hid hfk
      have HFT := hid hft
      have HKF := hid hkf
      have HBN := hid hbn
      have HROW := hid hrow
      have HKB := hid (fun W (h : Below B w W) => hk.below h hB)
      have hbn1 := hbn.1
      have hbn2 := hbn.2
      have hbl9 : bl ≤ 20000 := by rw [← hbl, hfx]; have := List.countP_le_length (p := Sg.isX) (l := cs); omega
      have hkl9 : kl ≤ 20000 := by rw [← hkl, hfk]; have := List.countP_le_length (p := Sg.isK) (l := cs); omega
      clear H1 hbd ih hk hb hbn hbv hS c hkl hkv hks hbl hfx hfk hft hkf hff hw hlen hbe1 hk1 cw hx1 HC1 hrow c0 c1
      go_region
      all_goals
        go_wp2_with (go_at_call 39; refine (HF.out _).mono ?_; rintro e w2 ⟨rfl, rfl⟩)
        obtain ⟨W2, hW2⟩ : ∃ W2, W2 = Lib.bytesWorld w1.drew 5 F := ⟨_, rfl⟩
        rw [← hW2]
        have hb2 : Below w1.heap.size w1 W2 := by rw [hW2]; exact (Below.refl w1.heap.size w1).drew.trans (Lib.bytesWorld_below w1.drew 5 F)
        have hs2 : W2.heap.size = w1.heap.size + 1 := by rw [hW2, Lib.bytesWorld_size]; rfl
        have HCL := hid (show ∀ i d, cs[i]? = some d → W2.cell? ⟨w1.heap.size, i, none⟩ = some (.int .u8 (d.up.toNat : Int)) from fun i d h => by
          have hi := (List.getElem?_eq_some_iff.1 h).1
          have := Lib.bytesWorld_cell w1.drew 5 F i (by rw [HFS.out]; exact hi)
          rw [HFG.out i d h] at this
          rw [hW2]; exact this)
        have HBD2 := hid (HBD1.out.under hb2)
        have HX2 := hid (HX1.out.trans (Bx.below hb2))
        have hrow1 := HBD1.out.row_ge
        have hg1 : g1 ≠ some w1.heap.size := fun e => by have := (hrow1 _ e).2; omega
        obtain ⟨n, hnn⟩ : ∃ n, cs.length = n := ⟨_, rfl⟩
        have HNN := hid hnn
        have HFX2 := hid (HFX.out)
        have hwm := weave_mem ty cs bs (Tm.writes ks) HFX.out (by rw [writes_length]; exact HFK.out)
        have HWV := hid (show (∀ k ∈ Tm.writes ks, k.length ≤ 20000) ∧ (cs.countP Sg.isT ≠ 0 → (tyText ty).length ≤ 20000) from ⟨fun k hk => by have := hwm.1 k hk; omega, fun ht => by have := hwm.2 ht; omega⟩)
        clear hwm
        obtain ⟨TT, hTT⟩ : ∃ TT, acc ++ 40 :: (hd.data.toList ++ weave cs bs ty (Tm.writes ks)) = TT := ⟨_, rfl⟩
        have htl : TT.length ≤ 500000 := by
          rw [← hTT, List.length_append, List.length_cons, List.length_append, dl_size]; omega
        have HTT := hid hTT
        rw [hnn]
        rw [hnn] at hsl
        clear hW2 hb2 hFs hrow1 hnn hTT hconv HF e0 e3 e5 hwl hal hcs
        go_loopw [4, 5, 41] (fun vb vk u wr => ∃ (i i0 j0 nb cb nk ck : Nat) (pb pk : Option Addr) (gr : Option Nat) (ac : List UInt8), i ≤ n ∧ u = .int .i64 (i : Int) ∧ vb = .slice pb nb cb ∧ vk = .slice pk nk ck ∧ nb ≤ cb ∧ nk ≤ ck ∧ i0 + nb = bl ∧ j0 + nk = kl ∧
            wr.heap[w1.heap.size]? = W2.heap[w1.heap.size]? ∧ gr ≠ some w1.heap.size ∧ W2.heap.size ≤ wr.heap.size ∧ Bd wr B bb gr (Lib.byteCells ac) ∧ Bx bb g gr w wr ∧
            Hid (At bp pb i0 bl ∧ At kp pk j0 kl ∧ nb = (cs.drop i).countP Sg.isX ∧ nk = (cs.drop i).countP Sg.isK ∧ ac ++ weave (cs.drop i) (bs.drop i0) ty (Tm.writes (ks.drop j0)) = TT)) (fun _ _ u _ => n - (intOf u).toNat)
        case atStart =>
          refine ⟨0, 0, 0, bl, bc, kl, kc, bp, kp, g1, acc ++ s0.data.toList, Nat.zero_le _, rfl, rfl, rfl, hbn1, hbn2, Nat.zero_add _, Nat.zero_add _, rfl, hg1, Nat.le_refl _, ?_, HX2.out, hid ⟨?_, ?_, ?_, ?_, ?_⟩⟩
          · rw [bc_append, ← strCells_cells]; exact HBD2.out
          · intro h
            obtain ⟨x, hx⟩ : ∃ x, bs[0]? = some x := ⟨_, List.getElem?_eq_getElem (by rw [HBL.out]; exact h)⟩
            obtain ⟨gb, hp, _⟩ := HBV.out 0 (.string x) (by simp [hx])
            exact ⟨gb, hp, hp⟩
          · intro h
            obtain ⟨gb, hp, _⟩ := HKV.out 0 _ (ptrs_get A h)
            exact ⟨gb, hp, hp⟩
          · rw [List.drop_zero, ← HFX.out]; exact HBL.out.symm
          · rw [List.drop_zero, ← HFK.out]; exact HKL.out.symm
          · rw [List.drop_zero, List.drop_zero, List.drop_zero, HS0L.out, ← HTT.out]; simp
        case round =>
          obtain ⟨i, i0, j0, nb, cb, nk, ck, pb, pk, gr, ac, hi, rfl, rfl, rfl, hnbc, hnkc, hnb, hnk, hkeep, hgr, hsz, hbdr, hxr, hL⟩ := hrel
          have hbelr : Below B w wr := hxr.to_below hBb hBw (fun k e => (HROW.out k e).1)
          have hzr := hxr.size
          have HBDR := hid hbdr
          have HXR := hid hxr
          have hacl : ac.length ≤ 500000 := by
            have := congrArg List.length hL.out.2.2.2.2
            rw [List.length_append] at this; omega
          have HWB := hid (fun c => writeByte_any B bb gr (Lib.byteCells ac) c wr hbdr (by rw [Lib.byteCells_length]; omega) (by omega))
          have HBELR := hid hbelr
          clear hbdr hxr
          by_cases hlt : i < n
          · obtain ⟨d, hdc⟩ : ∃ d, cs[i]? = some d := ⟨_, List.getElem?_eq_getElem (by rw [HNN.out]; exact hlt)⟩
            have hcell := (World.cell?_of_block (w := W2) (a := ⟨w1.heap.size, i, none⟩) hkeep).trans (HCL.out i d hdc)
            have HKEEP := hid hkeep
            clear hkeep
            have HB2 := hid (show ∀ (g2 : Option Nat) (W : World), Bx bb gr g2 wr W → Below B w W ∧ B ≤ W.heap.size from fun g2 W hx => ⟨hbelr.trans (hx.to_below hBb (by omega) (fun k e => (HBDR.out.row_ge k e).1)), by have := hx.size; omega⟩)
            cases d with
            | X =>
              have hcx := count_step Sg.isX hdc
              have hck := count_step Sg.isK hdc
              simp only [Sg.isX, Sg.isK, if_true] at hcx hck
              have hnb0 : 1 ≤ nb := by rw [hL.out.2.2.1, hcx]; omega
              obtain ⟨x, hx⟩ : ∃ x, bs[i0]? = some x := ⟨_, List.getElem?_eq_getElem (by rw [HBL.out]; omega)⟩
              obtain ⟨gb, hgb, hpb⟩ := hL.out.1 (by omega)
              obtain ⟨gb', hgb', _, hcb⟩ := HBV.out i0 (.string x) (by simp [hx])
              obtain rfl : gb' = gb := by rw [hgb] at hgb'; simpa using hgb'.symm
              subst hpb
              have hst := weave_stepX (cs := cs) (bs := bs) (ty := ty) (W := Tm.writes (ks.drop j0)) hdc hx
              have hL5 := hL.out.2.2.2.2
              rw [hst] at hL5
              have hxl : x.size ≤ 500000 := by
                have := congrArg List.length hL5
                rw [List.length_append, List.length_cons, List.length_append, dl_size] at this; omega
              have HL5 := hid (show (ac ++ 32 :: x.data.toList) ++ weave (cs.drop (i + 1)) (bs.drop (i0 + 1)) ty (Tm.writes (ks.drop j0)) = TT by rw [← hL5]; simp)
              have HNK := hid (show nk = (cs.drop (i + 1)).countP Sg.isK by rw [hL.out.2.2.2.1, hck]; simp)
              have HAT := hid hL.out.2.1
              obtain ⟨nb', rfl⟩ : ∃ nb', nb = nb' + 1 := ⟨nb - 1, by omega⟩
              have HNB := hid (show nb' = (cs.drop (i + 1)).countP Sg.isX by have := hL.out.2.2.1; omega)
              have HWS := hid (fun (g2 : Option Nat) (W : World) (h : Bd W B bb g2 (Lib.byteCells (ac ++ [32]))) (hle : B ≤ W.heap.size) => writeString_any B bb g2 (Lib.byteCells (ac ++ [32])) x W h (by rw [Lib.byteCells_length, List.length_append, List.length_cons, List.length_nil]; omega) (by omega) hle)
              have HCB := hid (fun (W : World) (h : Below B w W) => (HKB.out W h).cell hcb)
              have hd0 : 0 < nb' + 1 := by omega
              have HGB := hid hgb
              clear hcx hck hst hL5 hL hx hgb hgb' hcb hdc
              obtain ⟨cb', rfl⟩ : ∃ cb', cb = cb' + 1 := ⟨cb - 1, by omega⟩
              cases cb' with
              | zero =>
                obtain rfl : nb' = 0 := by omega
                go_wp2_with (first | (go_at_call 38; have _ := HBD2x; refine (HWS.out _ _ HBD2x.out HLE2.out).mono ?_; rintro e w3 ⟨rfl, g3, hbd3, hx3⟩; have HBD3 := hid hbd3; have HX3 := hid hx3; clear hbd3 hx3) | (go_at_call 40; refine (HWB.out _).mono ?_; rintro e w2 ⟨rfl, g2, hbd2, hx2⟩; have hbb2 := HB2.out _ _ hx2; have HBD2x := hid (show Bd w2 B bb g2 (Lib.byteCells (ac ++ [32])) from by rw [bc_append]; exact hbd2); have HX2x := hid hx2; have HLE2 := hid hbb2.2; have hcb2 := HCB.out _ hbb2.1; clear hbd2 hx2 hbb2))
                go_roundw
                case rel => 
                  have hx23 := HX2x.out.trans HX3.out
                  refine ⟨i + 1, i0 + 1, j0, 0, 0, nk, ck, some ⟨gb', i0, none⟩, pk, g3, ac ++ 32 :: x.data.toList, by omega, by go_num, rfl, rfl, by omega, hnkc, by omega, hnk, ?_, ?_, Nat.le_trans hsz hx23.size, ?_, HXR.out.trans hx23, hid ⟨?_, HAT.out, ?_, HNK.out, HL5.out⟩⟩
                  · rw [hx23.block _ (by omega) (by omega) hgr]; exact HKEEP.out
                  · rcases hx23.row with e | ⟨k, e, hk⟩
                    · rw [e]; exact hgr
                    · rw [e]; intro e2; have := Option.some.inj e2; omega
                  · have := HBD3.out
                    rw [strCells_cells, ← bc_append] at this
                    simpa using this
                  · intro h; omega
                  · exact HNB.out
                case measure => simp [intOf]; omega
              | succ cb'' =>
                go_wp2_with (first | (go_at_call 38; have _ := HBD2x; refine (HWS.out _ _ HBD2x.out HLE2.out).mono ?_; rintro e w3 ⟨rfl, g3, hbd3, hx3⟩; have HBD3 := hid hbd3; have HX3 := hid hx3; clear hbd3 hx3) | (go_at_call 40; refine (HWB.out _).mono ?_; rintro e w2 ⟨rfl, g2, hbd2, hx2⟩; have hbb2 := HB2.out _ _ hx2; have HBD2x := hid (show Bd w2 B bb g2 (Lib.byteCells (ac ++ [32])) from by rw [bc_append]; exact hbd2); have HX2x := hid hx2; have HLE2 := hid hbb2.2; have hcb2 := HCB.out _ hbb2.1; clear hbd2 hx2 hbb2))
                go_roundw
                case rel => 
                  have hx23 := HX2x.out.trans HX3.out
                  refine ⟨i + 1, i0 + 1, j0, nb', cb'' + 1, nk, ck, some ⟨gb', i0 + 1, none⟩, pk, g3, ac ++ 32 :: x.data.toList, by omega, by go_num, rfl, rfl, by omega, hnkc, by omega, hnk, ?_, ?_, Nat.le_trans hsz hx23.size, ?_, HXR.out.trans hx23, hid ⟨?_, HAT.out, ?_, HNK.out, HL5.out⟩⟩
                  · rw [hx23.block _ (by omega) (by omega) hgr]; exact HKEEP.out
                  · rcases hx23.row with e | ⟨k, e, hk⟩
                    · rw [e]; exact hgr
                    · rw [e]; intro e2; have := Option.some.inj e2; omega
                  · have := HBD3.out
                    rw [strCells_cells, ← bc_append] at this
                    simpa using this
                  · intro h; exact ⟨gb', HGB.out, rfl⟩
                  · exact HNB.out
                case measure => simp [intOf]; omega
            | A =>
              have hcx := count_step Sg.isX hdc
              have hck := count_step Sg.isK hdc
              simp only [Sg.isX, Sg.isK] at hcx hck
              have htn := HFT.out (count_pos Sg.isT hdc rfl)
              obtain ⟨t, rfl⟩ : ∃ t, ty = some t := by
                cases ty with
                | none => exact absurd rfl htn
                | some t => exact ⟨t, rfl⟩
              have hst := weave_stepT (cs := cs) (bs := bs.drop i0) (ty := some t) (W := Tm.writes (ks.drop j0)) hdc rfl
              have hL5 := hL.out.2.2.2.2
              rw [hst, tyText] at hL5
              have htl2 : t.write.length ≤ 20000 := HWV.out.2 (count_pos Sg.isT hdc rfl)
              have HL5 := hid (show (ac ++ 32 :: t.write) ++ weave (cs.drop (i + 1)) (bs.drop i0) (some t) (Tm.writes (ks.drop j0)) = TT by rw [← hL5]; simp)
              have HNX := hid (show nb = (cs.drop (i + 1)).countP Sg.isX by rw [hL.out.2.2.1, hcx]; simp)
              have HNK := hid (show nk = (cs.drop (i + 1)).countP Sg.isK by rw [hL.out.2.2.2.1, hck]; simp)
              have HAT := hid (And.intro hL.out.1 hL.out.2.1)
              have htx : t.text.size ≤ 500000 := by rw [text_size]; omega
              have HTX := hid (show t.text.data.toList = t.write from rfl)
              obtain ⟨TX, hTX⟩ : ∃ TX, t.text = TX := ⟨_, rfl⟩
              have HTY := hid (fun W => typeText_big t (by omega) W)
              rw [hTX] at HTY htx HTX
              have HWS := hid (fun (g2 : Option Nat) (W : World) (h : Bd W B bb g2 (Lib.byteCells (ac ++ [32]))) (hle : B ≤ W.heap.size) => writeString_any B bb g2 (Lib.byteCells (ac ++ [32])) TX W h (by rw [Lib.byteCells_length, List.length_append, List.length_cons, List.length_nil]; omega) (by omega) hle)
              obtain ⟨tn, tv, htv⟩ := t.val_iface
              have HCB := hid (fun (W : World) (h : Below B w W) => (show W.cell? ⟨b, 4, none⟩ = some (.iface tn tv) from by
                have hkk := HKB.out W h
                have := (cells_of_six ((hkk b hlt0).trans HB0.out)).2.2.2.2.1
                rw [tyV, htv] at this; exact this))
              rw [htv] at HTY
              clear hcx hck hst hL5 hL hdc htn hTX htv htl2 HWV
              go_wp2_with (first | (go_at_call 38; have _ := hb3; refine (HWS.out _ _ (HBD2x.out.under hb3) (Nat.le_trans HLE2.out hb3.size)).mono ?_; rintro e w4 ⟨rfl, g3, hbd3, hx3⟩; have HBD3 := hid hbd3; have HX3 := hid hx3; clear hbd3 hx3) | (go_at_call 41; have _ := HBD2x; refine (HTY.out _).mono ?_; rintro e w3 ⟨rfl, hb3⟩) | (go_at_call 40; refine (HWB.out _).mono ?_; rintro e w2 ⟨rfl, g2, hbd2, hx2⟩; have hbb2 := HB2.out _ _ hx2; have HBD2x := hid (show Bd w2 B bb g2 (Lib.byteCells (ac ++ [32])) from by rw [bc_append]; exact hbd2); have HX2x := hid hx2; have HLE2 := hid hbb2.2; have hcb2 := HCB.out _ hbb2.1; clear hbd2 hx2 hbb2))
              go_roundw
              case rel =>
                have hx23 := (HX2x.out.trans (Bx.below hb3)).trans HX3.out
                refine ⟨i + 1, i0, j0, nb, cb, nk, ck, pb, pk, g3, ac ++ 32 :: t.write, by omega, by go_num, rfl, rfl, hnbc, hnkc, hnb, hnk, ?_, ?_, Nat.le_trans hsz hx23.size, ?_, HXR.out.trans hx23, hid ⟨HAT.out.1, HAT.out.2, HNX.out, HNK.out, HL5.out⟩⟩
                · rw [hx23.block _ (by omega) (by omega) hgr]; exact HKEEP.out
                · rcases hx23.row with e | ⟨k, e, hk⟩
                  · rw [e]; exact hgr
                  · rw [e]; intro e2; have := Option.some.inj e2; omega
                · have := HBD3.out
                  rw [strCells_cells, ← bc_append, HTX.out] at this
                  simpa using this
              case measure => simp [intOf]; omega
            | C =>
              have hcx := count_step Sg.isX hdc
              have hck := count_step Sg.isK hdc
              simp only [Sg.isX, Sg.isK] at hcx hck
              have htn := HFT.out (count_pos Sg.isT hdc rfl)
              obtain ⟨t, rfl⟩ : ∃ t, ty = some t := by
                cases ty with
                | none => exact absurd rfl htn
                | some t => exact ⟨t, rfl⟩
              have hst := weave_stepT (cs := cs) (bs := bs.drop i0) (ty := some t) (W := Tm.writes (ks.drop j0)) hdc rfl
              have hL5 := hL.out.2.2.2.2
              rw [hst, tyText] at hL5
              have htl2 : t.write.length ≤ 20000 := HWV.out.2 (count_pos Sg.isT hdc rfl)
              have HL5 := hid (show (ac ++ 32 :: t.write) ++ weave (cs.drop (i + 1)) (bs.drop i0) (some t) (Tm.writes (ks.drop j0)) = TT by rw [← hL5]; simp)
              have HNX := hid (show nb = (cs.drop (i + 1)).countP Sg.isX by rw [hL.out.2.2.1, hcx]; simp)
              have HNK := hid (show nk = (cs.drop (i + 1)).countP Sg.isK by rw [hL.out.2.2.2.1, hck]; simp)
              have HAT := hid (And.intro hL.out.1 hL.out.2.1)
              have htx : t.text.size ≤ 500000 := by rw [text_size]; omega
              have HTX := hid (show t.text.data.toList = t.write from rfl)
              obtain ⟨TX, hTX⟩ : ∃ TX, t.text = TX := ⟨_, rfl⟩
              have HTY := hid (fun W => typeText_big t (by omega) W)
              rw [hTX] at HTY htx HTX
              have HWS := hid (fun (g2 : Option Nat) (W : World) (h : Bd W B bb g2 (Lib.byteCells (ac ++ [32]))) (hle : B ≤ W.heap.size) => writeString_any B bb g2 (Lib.byteCells (ac ++ [32])) TX W h (by rw [Lib.byteCells_length, List.length_append, List.length_cons, List.length_nil]; omega) (by omega) hle)
              obtain ⟨tn, tv, htv⟩ := t.val_iface
              have HCB := hid (fun (W : World) (h : Below B w W) => (show W.cell? ⟨b, 4, none⟩ = some (.iface tn tv) from by
                have hkk := HKB.out W h
                have := (cells_of_six ((hkk b hlt0).trans HB0.out)).2.2.2.2.1
                rw [tyV, htv] at this; exact this))
              rw [htv] at HTY
              clear hcx hck hst hL5 hL hdc htn hTX htv htl2 HWV
              go_wp2_with (first | (go_at_call 38; have _ := hb3; refine (HWS.out _ _ (HBD2x.out.under hb3) (Nat.le_trans HLE2.out hb3.size)).mono ?_; rintro e w4 ⟨rfl, g3, hbd3, hx3⟩; have HBD3 := hid hbd3; have HX3 := hid hx3; clear hbd3 hx3) | (go_at_call 41; have _ := HBD2x; refine (HTY.out _).mono ?_; rintro e w3 ⟨rfl, hb3⟩) | (go_at_call 40; refine (HWB.out _).mono ?_; rintro e w2 ⟨rfl, g2, hbd2, hx2⟩; have hbb2 := HB2.out _ _ hx2; have HBD2x := hid (show Bd w2 B bb g2 (Lib.byteCells (ac ++ [32])) from by rw [bc_append]; exact hbd2); have HX2x := hid hx2; have HLE2 := hid hbb2.2; have hcb2 := HCB.out _ hbb2.1; clear hbd2 hx2 hbb2))
              go_roundw
              case rel =>
                have hx23 := (HX2x.out.trans (Bx.below hb3)).trans HX3.out
                refine ⟨i + 1, i0, j0, nb, cb, nk, ck, pb, pk, g3, ac ++ 32 :: t.write, by omega, by go_num, rfl, rfl, hnbc, hnkc, hnb, hnk, ?_, ?_, Nat.le_trans hsz hx23.size, ?_, HXR.out.trans hx23, hid ⟨HAT.out.1, HAT.out.2, HNX.out, HNK.out, HL5.out⟩⟩
                · rw [hx23.block _ (by omega) (by omega) hgr]; exact HKEEP.out
                · rcases hx23.row with e | ⟨k, e, hk⟩
                  · rw [e]; exact hgr
                  · rw [e]; intro e2; have := Option.some.inj e2; omega
                · have := HBD3.out
                  rw [strCells_cells, ← bc_append, HTX.out] at this
                  simpa using this
              case measure => simp [intOf]; omega
            | V =>
              have hcx := count_step Sg.isX hdc
              have hck := count_step Sg.isK hdc
              simp only [Sg.isX, Sg.isK, if_true] at hcx hck
              have hnk0 : 1 ≤ nk := by rw [hL.out.2.2.2.1, hck]; omega
              obtain ⟨k, hk⟩ : ∃ k, ks[j0]? = some k := ⟨_, List.getElem?_eq_getElem (by rw [HKL.out]; omega)⟩
              obtain ⟨gk, hgk, hpk⟩ := hL.out.2.1 (by omega)
              obtain ⟨gk', hgk', _, hcb⟩ := HKV.out j0 _ (ptrs_get A (show j0 < kl by omega))
              obtain rfl : gk' = gk := by rw [hgk] at hgk'; simpa using hgk'.symm
              subst hpk
              have hst := weave_stepK (cs := cs) (bs := bs.drop i0) (ty := ty) hdc rfl hk
              have hL5 := hL.out.2.2.2.2
              rw [hst] at hL5
              have hkw : k.write.length ≤ 20000 := HWV.out.1 _ (List.mem_of_getElem? (writes_get hk))
              have hkl5 : (ac ++ [32]).length + k.write.length ≤ 500000 := by
                have := congrArg List.length hL5
                rw [List.length_append, List.length_cons, List.length_append] at this
                rw [List.length_append, List.length_cons, List.length_nil]; omega
              have HL5 := hid (show (ac ++ 32 :: k.write) ++ weave (cs.drop (i + 1)) (bs.drop i0) ty (Tm.writes (ks.drop (j0 + 1))) = TT by rw [← hL5]; simp)
              have HNX := hid (show nb = (cs.drop (i + 1)).countP Sg.isX by rw [hL.out.2.2.1, hcx]; simp)
              have HAT := hid hL.out.1
              obtain ⟨nk', rfl⟩ : ∃ nk', nk = nk' + 1 := ⟨nk - 1, by omega⟩
              have HNK := hid (show nk' = (cs.drop (i + 1)).countP Sg.isK by have := hL.out.2.2.2.1; omega)
              have HWS := hid (fun (g2 : Option Nat) (W : World) (h : Bd W B bb g2 (Lib.byteCells (ac ++ [32]))) (hle : B ≤ W.heap.size) (hbw : Below B w W) => HIH.out j0 k hk (tmfits_get ks j0 k HKF.out hk) (by omega) W B bb g2 (ac ++ [32]) (HKB.out W hbw) hB hle h hkl5)
              have HCB := hid (fun (W : World) (h : Below B w W) => (HKB.out W h).cell hcb)
              have hd0 : 0 < nk' + 1 := by omega
              have HGB := hid hgk
              obtain ⟨KW, hKW⟩ : ∃ KW, k.write = KW := ⟨_, rfl⟩
              rw [hKW] at HWS HL5
              clear hcx hck hst hL5 hL hk hgk hgk' hcb hdc hkw hkl5 hKW
              obtain ⟨ck', rfl⟩ : ∃ ck', ck = ck' + 1 := ⟨ck - 1, by omega⟩
              cases ck' with
              | zero =>
                obtain rfl : nk' = 0 := by omega
                go_wp2_with (first | (go_at_call 25; have _ := HBD2x; refine (HWS.out _ _ HBD2x.out HLE2.out HBB2.out).mono ?_; rintro e w3 ⟨rfl, g3, hbd3, hx3⟩; have HBD3 := hid hbd3; have HX3 := hid hx3; clear hbd3 hx3) | (go_at_call 40; refine (HWB.out _).mono ?_; rintro e w2 ⟨rfl, g2, hbd2, hx2⟩; have hbb2 := HB2.out _ _ hx2; have HBD2x := hid (show Bd w2 B bb g2 (Lib.byteCells (ac ++ [32])) from by rw [bc_append]; exact hbd2); have HX2x := hid hx2; have HLE2 := hid hbb2.2; have hcb2 := HCB.out _ hbb2.1; have HBB2 := hid hbb2.1; clear hbd2 hx2 hbb2))
                go_roundw
                case rel => 
                  have hx23 := HX2x.out.trans HX3.out
                  refine ⟨i + 1, i0, j0 + 1, nb, cb, 0, 0, pb, some ⟨gk', j0, none⟩, g3, ac ++ 32 :: KW, by omega, by go_num, rfl, rfl, hnbc, by omega, hnb, by omega, ?_, ?_, Nat.le_trans hsz hx23.size, ?_, HXR.out.trans hx23, hid ⟨HAT.out, ?_, HNX.out, HNK.out, HL5.out⟩⟩
                  · rw [hx23.block _ (by omega) (by omega) hgr]; exact HKEEP.out
                  · rcases hx23.row with e | ⟨k, e, hk⟩
                    · rw [e]; exact hgr
                    · rw [e]; intro e2; have := Option.some.inj e2; omega
                  · have := HBD3.out
                    simpa using this
                  · intro h; omega
                case measure => simp [intOf]; omega
              | succ ck'' =>
                go_wp2_with (first | (go_at_call 25; have _ := HBD2x; refine (HWS.out _ _ HBD2x.out HLE2.out HBB2.out).mono ?_; rintro e w3 ⟨rfl, g3, hbd3, hx3⟩; have HBD3 := hid hbd3; have HX3 := hid hx3; clear hbd3 hx3) | (go_at_call 40; refine (HWB.out _).mono ?_; rintro e w2 ⟨rfl, g2, hbd2, hx2⟩; have hbb2 := HB2.out _ _ hx2; have HBD2x := hid (show Bd w2 B bb g2 (Lib.byteCells (ac ++ [32])) from by rw [bc_append]; exact hbd2); have HX2x := hid hx2; have HLE2 := hid hbb2.2; have hcb2 := HCB.out _ hbb2.1; have HBB2 := hid hbb2.1; clear hbd2 hx2 hbb2))
                go_roundw
                case rel => 
                  have hx23 := HX2x.out.trans HX3.out
                  refine ⟨i + 1, i0, j0 + 1, nb, cb, nk', ck'' + 1, pb, some ⟨gk', j0 + 1, none⟩, g3, ac ++ 32 :: KW, by omega, by go_num, rfl, rfl, hnbc, by omega, hnb, by omega, ?_, ?_, Nat.le_trans hsz hx23.size, ?_, HXR.out.trans hx23, hid ⟨HAT.out, ?_, HNX.out, HNK.out, HL5.out⟩⟩
                  · rw [hx23.block _ (by omega) (by omega) hgr]; exact HKEEP.out
                  · rcases hx23.row with e | ⟨k, e, hk⟩
                    · rw [e]; exact hgr
                    · rw [e]; intro e2; have := Option.some.inj e2; omega
                  · have := HBD3.out
                    simpa using this
                  · intro h; exact ⟨gk', HGB.out, rfl⟩
                case measure => simp [intOf]; omega
            | M =>
              have hcx := count_step Sg.isX hdc
              have hck := count_step Sg.isK hdc
              simp only [Sg.isX, Sg.isK, if_true] at hcx hck
              have hnk0 : 1 ≤ nk := by rw [hL.out.2.2.2.1, hck]; omega
              obtain ⟨k, hk⟩ : ∃ k, ks[j0]? = some k := ⟨_, List.getElem?_eq_getElem (by rw [HKL.out]; omega)⟩
              obtain ⟨gk, hgk, hpk⟩ := hL.out.2.1 (by omega)
              obtain ⟨gk', hgk', _, hcb⟩ := HKV.out j0 _ (ptrs_get A (show j0 < kl by omega))
              obtain rfl : gk' = gk := by rw [hgk] at hgk'; simpa using hgk'.symm
              subst hpk
              have hst := weave_stepK (cs := cs) (bs := bs.drop i0) (ty := ty) hdc rfl hk
              have hL5 := hL.out.2.2.2.2
              rw [hst] at hL5
              have hkw : k.write.length ≤ 20000 := HWV.out.1 _ (List.mem_of_getElem? (writes_get hk))
              have hkl5 : (ac ++ [32]).length + k.write.length ≤ 500000 := by
                have := congrArg List.length hL5
                rw [List.length_append, List.length_cons, List.length_append] at this
                rw [List.length_append, List.length_cons, List.length_nil]; omega
              have HL5 := hid (show (ac ++ 32 :: k.write) ++ weave (cs.drop (i + 1)) (bs.drop i0) ty (Tm.writes (ks.drop (j0 + 1))) = TT by rw [← hL5]; simp)
              have HNX := hid (show nb = (cs.drop (i + 1)).countP Sg.isX by rw [hL.out.2.2.1, hcx]; simp)
              have HAT := hid hL.out.1
              obtain ⟨nk', rfl⟩ : ∃ nk', nk = nk' + 1 := ⟨nk - 1, by omega⟩
              have HNK := hid (show nk' = (cs.drop (i + 1)).countP Sg.isK by have := hL.out.2.2.2.1; omega)
              have HWS := hid (fun (g2 : Option Nat) (W : World) (h : Bd W B bb g2 (Lib.byteCells (ac ++ [32]))) (hle : B ≤ W.heap.size) (hbw : Below B w W) => HIH.out j0 k hk (tmfits_get ks j0 k HKF.out hk) (by omega) W B bb g2 (ac ++ [32]) (HKB.out W hbw) hB hle h hkl5)
              have HCB := hid (fun (W : World) (h : Below B w W) => (HKB.out W h).cell hcb)
              have hd0 : 0 < nk' + 1 := by omega
              have HGB := hid hgk
              obtain ⟨KW, hKW⟩ : ∃ KW, k.write = KW := ⟨_, rfl⟩
              rw [hKW] at HWS HL5
              clear hcx hck hst hL5 hL hk hgk hgk' hcb hdc hkw hkl5 hKW
              obtain ⟨ck', rfl⟩ : ∃ ck', ck = ck' + 1 := ⟨ck - 1, by omega⟩
              cases ck' with
              | zero =>
                obtain rfl : nk' = 0 := by omega
                go_wp2_with (first | (go_at_call 25; have _ := HBD2x; refine (HWS.out _ _ HBD2x.out HLE2.out HBB2.out).mono ?_; rintro e w3 ⟨rfl, g3, hbd3, hx3⟩; have HBD3 := hid hbd3; have HX3 := hid hx3; clear hbd3 hx3) | (go_at_call 40; refine (HWB.out _).mono ?_; rintro e w2 ⟨rfl, g2, hbd2, hx2⟩; have hbb2 := HB2.out _ _ hx2; have HBD2x := hid (show Bd w2 B bb g2 (Lib.byteCells (ac ++ [32])) from by rw [bc_append]; exact hbd2); have HX2x := hid hx2; have HLE2 := hid hbb2.2; have hcb2 := HCB.out _ hbb2.1; have HBB2 := hid hbb2.1; clear hbd2 hx2 hbb2))
                go_roundw
                case rel => 
                  have hx23 := HX2x.out.trans HX3.out
                  refine ⟨i + 1, i0, j0 + 1, nb, cb, 0, 0, pb, some ⟨gk', j0, none⟩, g3, ac ++ 32 :: KW, by omega, by go_num, rfl, rfl, hnbc, by omega, hnb, by omega, ?_, ?_, Nat.le_trans hsz hx23.size, ?_, HXR.out.trans hx23, hid ⟨HAT.out, ?_, HNX.out, HNK.out, HL5.out⟩⟩
                  · rw [hx23.block _ (by omega) (by omega) hgr]; exact HKEEP.out
                  · rcases hx23.row with e | ⟨k, e, hk⟩
                    · rw [e]; exact hgr
                    · rw [e]; intro e2; have := Option.some.inj e2; omega
                  · have := HBD3.out
                    simpa using this
                  · intro h; omega
                case measure => simp [intOf]; omega
              | succ ck'' =>
                go_wp2_with (first | (go_at_call 25; have _ := HBD2x; refine (HWS.out _ _ HBD2x.out HLE2.out HBB2.out).mono ?_; rintro e w3 ⟨rfl, g3, hbd3, hx3⟩; have HBD3 := hid hbd3; have HX3 := hid hx3; clear hbd3 hx3) | (go_at_call 40; refine (HWB.out _).mono ?_; rintro e w2 ⟨rfl, g2, hbd2, hx2⟩; have hbb2 := HB2.out _ _ hx2; have HBD2x := hid (show Bd w2 B bb g2 (Lib.byteCells (ac ++ [32])) from by rw [bc_append]; exact hbd2); have HX2x := hid hx2; have HLE2 := hid hbb2.2; have hcb2 := HCB.out _ hbb2.1; have HBB2 := hid hbb2.1; clear hbd2 hx2 hbb2))
                go_roundw
                case rel => 
                  have hx23 := HX2x.out.trans HX3.out
                  refine ⟨i + 1, i0, j0 + 1, nb, cb, nk', ck'' + 1, pb, some ⟨gk', j0 + 1, none⟩, g3, ac ++ 32 :: KW, by omega, by go_num, rfl, rfl, hnbc, by omega, hnb, by omega, ?_, ?_, Nat.le_trans hsz hx23.size, ?_, HXR.out.trans hx23, hid ⟨HAT.out, ?_, HNX.out, HNK.out, HL5.out⟩⟩
                  · rw [hx23.block _ (by omega) (by omega) hgr]; exact HKEEP.out
                  · rcases hx23.row with e | ⟨k, e, hk⟩
                    · rw [e]; exact hgr
                    · rw [e]; intro e2; have := Option.some.inj e2; omega
                  · have := HBD3.out
                    simpa using this
                  · intro h; exact ⟨gk', HGB.out, rfl⟩
                case measure => simp [intOf]; omega
          · have hin : i = n := by omega
            have hT : ac = TT := by
              have := hL.out.2.2.2.2
              rw [List.drop_of_length_le (l := cs) (by rw [HNN.out]; omega)] at this
              simpa [weave] using this
            have HTE := hid hT
            clear hT hin hL hkeep
            go_wp2_with (go_at_call 40; refine (HWB.out _).mono ?_; rintro e w3 ⟨rfl, g3, hbd3, hx3⟩; have HBD3 := hid hbd3; have HX3 := hid hx3; clear hbd3 hx3)
            go_end0
            refine ⟨rfl, g3, ?_, HXR.out.trans HX3.out⟩
            have := HBD3.out
            rw [HTE.out, ← HTT.out] at this
            have e41 : ([.int .u8 41] : List Value) = Lib.byteCells [41] := rfl
            rw [e41, ← bc_append] at this
            simpa using this
end Go.Proofs.YtfogjomebcponaaDoor
