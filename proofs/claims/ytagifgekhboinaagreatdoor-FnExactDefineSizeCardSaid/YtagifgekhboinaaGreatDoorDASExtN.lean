/- Merged: ExtN. -/
import Derived.Test.YtagifgekhboinaaGreatDoorDASExtT
import Derived.Test.YtagifgekhboinaaGreatDoorDA9
import Derived.Test.YtagifgekhboinaaGreatDoorDA26
namespace Go.Proofs.YtagifgekhboinaaGreatDoor
open Go.RowKit

theorem exT_le (ty : Option Ty) (e : Ex) : e.a ≤ (exT ty e).a ∧ e.b ≤ (exT ty e).b ∧ e.n ≤ (exT ty e).n := by
  cases ty with
  | none => exact ⟨Nat.le_refl _, Nat.le_refl _, Nat.le_refl _⟩
  | some t => exact ⟨by show e.a ≤ e.a + _; omega, by show e.b ≤ e.b + 1 + _; omega, by show e.n ≤ max e.n _; omega⟩
theorem wis_len2 (l : List Ex) : ∀ e : Ex, l.length + e.b ≤ (wis e l).b := by
  induction l with
  | nil => intro e; show 0 + e.b ≤ e.b; omega
  | cons q l ih =>
    intro e
    have h1 := ih (e.wi q)
    have e2 : (e.wi q).b = e.b + 1 + q.b := rfl
    show l.length + 1 + e.b ≤ (wis (e.wi q) l).b
    omega
theorem wis_len (e : Ex) (l : List Ex) : l.length ≤ (wis e l).b := by have := wis_len2 l e; omega
theorem kept_bx {w0 w w' : World} {b : Nat} (h : Kept w0 w) (hx : Bxe b w w') (hw : w0.heap.size ≤ w.heap.size) (hb : w0.heap.size ≤ b) : Kept w0 w' := fun k hk => (hx.block k (by omega) (by omega)).trans (h k hk)

set_option maxRecDepth 100000 in
set_option maxHeartbeats 4000000 in
/-- THE PROGRAM's EXTENT OF A TERM. -/
theorem extent_any {w0 : World} {S : Nat → Prop} {m : Tm} {b : Nat} (hn : NIn w0 S m b) : m.ex.ok → ∀ w, Kept w0 w → w0.heap.size ≤ w.heap.size →
    Calls Tryz.prog 18 #[.pointer (some ⟨b, 0, none⟩)] w fun e w' => e = .returned (exV m.ex) ∧ Below w.heap.size w w' := by
  induction hn with
  | mk hd a d bs ty ks b bp bl bc kp kl kc A hS hb hbl hkl hbn hbv hkv hks ih =>
   intro hok w hk hw
   have hlt0 := lt_of_block hb
   have hke : Kept w0 (w.alloc (.cells #[.int .i64 0, .int .i64 0, .int .i64 0] 44)) := hk.alloc hw _
   have c := cells_of_six ((hke b hlt0).trans hb)
   have c0 := c.1
   have c1 := c.2.1
   have c3 := c.2.2.2.1
   have c4 := c.2.2.2.2.1
   have c5 := c.2.2.2.2.2.1
   have HLT := hid (show b < w.heap.size by omega)
   have HKL := hid hkl
   have HBL := hid hbl
   have HKV := hid hkv
   have HBV := hid hbv
   have HIH := hid ih
   have HK := hid hk
   have HE0 := hid (show ExB (w.alloc (.cells #[.int .i64 0, .int .i64 0, .int .i64 0] 44)) w.heap.size ⟨0, 0, 0⟩ from heap_new w _ _ rfl)
   have hz00 : (w.alloc (.cells #[.int .i64 0, .int .i64 0, .int .i64 0] 44)).heap.size = w.heap.size + 1 := by simp
   have HB0 := hid (show Below w.heap.size w (w.alloc (.cells #[.int .i64 0, .int .i64 0, .int .i64 0] 44)) from (Below.refl _ _).alloc (Nat.le_refl _) _)
   have HKE := hid hke
   have HBLK := hid hb
   clear ih hk hb hbn hbv hS hbl hkl hks hkv c hke
   by_cases ha : a.toList = []
   · have HX := hid (show (Tm.mk hd a d bs ty ks).ex = Tm.exs ks (exT ty (exB bs (Ex.head hd.size))) by rw [Tm.ex, if_pos ha])
     rw [HX.out] at hok ⊢
     have hae : a.toList.isEmpty = true := by rw [ha]; rfl
     clear ha
     have hok3 : (exT ty (exB bs (Ex.head hd.size))).ok := by
       rw [tmexs_wis] at hok
       exact exOk_le hok (wis_le _ _).1 (wis_le _ _).2.1 (wis_le _ _).2.2
     have hok2 : (exB bs (Ex.head hd.size)).ok := exOk_le hok3 (exT_le _ _).1 (exT_le _ _).2.1 (exT_le _ _).2.2
     have hok1 : (Ex.head hd.size).ok := exOk_le hok2 (wis_le _ _).1 (wis_le _ _).2.1 (wis_le _ _).2.2
     have hhz : hd.size ≤ 40000000000 := by have h : 2 + hd.size ≤ 40000000000 := hok1.2.1; omega
     have HO4 := hid hok
     have HO3 := hid hok3
     have HO2 := hid hok2
     have HEH := hid (fun W => (show Calls Tryz.prog 38 #[.string hd] W fun e w' => e = .returned (.agg #[.int .i64 1, .int .i64 (2 + (hd.size : Int)), .int .i64 1]) ∧ Below W.heap.size W w' from exHead_any hd hhz W))
     have hbl9 : bl ≤ 40000000000 := by
       have h := wis_len (Ex.head hd.size) (bs.map fun s => Ex.atom s.size)
       rw [List.length_map, HBL.out] at h
       exact Nat.le_trans h hok2.2.1
     have hkl9 : kl ≤ 40000000000 := by
       rw [tmexs_wis] at hok
       have h := wis_len (exT ty (exB bs (Ex.head hd.size))) (ks.map Tm.ex)
       rw [List.length_map, HKL.out] at h
       exact Nat.le_trans h hok.2.1
     have HOK4 := hid (show (wis (exT ty (exB bs (Ex.head hd.size))) (ks.map Tm.ex)).ok from by rw [← tmexs_wis]; exact hok)
     have HFIN := hid (tmexs_wis ks (exT ty (exB bs (Ex.head hd.size))))
     clear hok hok1 hok2 hok3
     cases ty with
     | none =>
       simp only [tyV] at c4
       go_enter Tryz.func18, Tryz.ntmps18
       go_wp2_with fail
       go_at_call 38
       refine (HEH.out _).mono ?_
       rintro e w3 ⟨rfl, hb3⟩
       have hz3 := hb3.size
       have HE3 := hid (exB_keep HE0.out hb3 (by omega))
       have HB3 := hid (HB0.out.trans (hb3.mono (by omega)))
       have HK3 := hid (HKE.out.below hb3 (by omega))
       have HE4 := hid (show ExB (w3.alloc (.cells #[.int .i64 1, .int .i64 (2 + (hd.size : Int)), .int .i64 1] 44)) w3.heap.size (Ex.head hd.size) from heap_new w3 _ _ rfl)
       have HX4 := hid (Bxe.of_below (b := w3.heap.size) ((Below.refl w3.heap.size w3).alloc (Nat.le_refl _) (.cells #[.int .i64 1, .int .i64 (2 + (hd.size : Int)), .int .i64 1] 44)) (Nat.le_refl _))
       have k4 := kept_bx HK3.out HX4.out (by omega) (by omega)
       have c := (cells_of_six ((k4 b hlt0).trans HBLK.out))
       have d3 := c.2.2.2.1
       have d4 := c.2.2.2.2.1
       have d5 := c.2.2.2.2.2.1
       simp only [tyV] at d4
       clear hb3 c k4 c0 c1 c3 c4 c5
       go_wp2_with fail
       go_loopw [28] (fun u wr => ∃ i : Nat, i ≤ bl ∧ u = .int .i64 (i : Int) ∧ Hid (ExB wr w3.heap.size (wis (Ex.head hd.size) ((bs.map fun s => Ex.atom s.size).take i))) ∧ Hid (Bxe w3.heap.size w3 wr)) (fun u _ => bl - (intOf u).toNat)
       case atStart => exact ⟨0, Nat.zero_le _, rfl, HE4, HX4⟩
       case round =>
         obtain ⟨i, hi, rfl, hE, hX⟩ := hrel
         have hz := hX.out.size
         have hkw := kept_bx HK3.out hX.out (by omega) (by omega)
         by_cases hlt : i < bl
         · have d1 : (i : Int) < (bl : Int) := by omega
           obtain ⟨x, hx⟩ : ∃ x, bs[i]? = some x := ⟨_, List.getElem?_eq_getElem (by rw [HBL.out]; exact hlt)⟩
           obtain ⟨g, rfl, _, hc⟩ := HBV.out i (.string x) (by simp [hx])
           have hcc := hkw.cell hc
           obtain ⟨TX0, hT0⟩ : ∃ T, Ex.atom x.size = T := ⟨_, rfl⟩
           have HT := hid (fun W => (show Calls Tryz.prog 37 #[.string x] W fun e w' => e = .returned (exV TX0) ∧ Below W.heap.size W w' from by rw [← hT0]; exact exAtom_any x W))
           have hti : (bs.map fun s => Ex.atom s.size)[i]? = some TX0 := by simp [hx, hT0]
           clear hx hc hT0
           have hsn := wis_snoc (Ex.head hd.size) (bs.map fun s => Ex.atom s.size) i TX0 hti
           have hok1 := exL_ok HO2.out i
           have hok2 := exP_ok HO2.out hti
           obtain ⟨E, hEE⟩ : ∃ E, wis (Ex.head hd.size) ((bs.map fun s => Ex.atom s.size).take i) = E := ⟨_, rfl⟩
           rw [hEE] at hE hsn hok1
           have HSN := hid hsn
           have HO1 := hid hok1
           have HOX := hid hok2
           obtain ⟨TX, hTX⟩ : ∃ TX, TX0 = TX := ⟨_, rfl⟩
           rw [hTX] at HT HSN HOX
           have HWI := hid (fun W => (show Calls Tryz.prog 39 #[.agg #[.int .i64 (E.a : Int), .int .i64 (E.b : Int), .int .i64 (E.n : Int)], exV TX] W fun r w' => r = .returned (.agg #[.int .i64 ((E.wi TX).a : Int), .int .i64 ((E.wi TX).b : Int), .int .i64 ((E.wi TX).n : Int)]) ∧ Below W.heap.size W w' from exWith_any E TX HO1.out HOX.out W))
           have HEd := hid (exB_keep hE.out ((Below.refl wr.heap.size wr).drew) (lt_of_block hE.out))
           obtain ⟨⟨c0, c1, c2⟩, ⟨z0, z1, z2⟩, l0⟩ := exB_cells hE.out
           obtain ⟨⟨e0, e1, e2⟩, _, hll⟩ := exB_cells HEd.out
           have HLD := hid hll
           clear hti hsn hok1 hok2 hEE hTX hll hkw
           go_wp2_with fail
           go_region_with (first
               | (have _ := HE5
                  go_at_call 39
                  refine (HWI.out _).mono ?_
                  rintro e w6 ⟨rfl, hb6⟩
                  have hE6 := exB_keep HE5.out hb6 (lt_of_block HE5.out)
                  have HE6 := hid hE6
                  obtain ⟨x0, x1, x2⟩ := (exB_cells hE6).1
                  obtain ⟨y0, y1, y2⟩ := (exB_cells hE6).2.1
                  have l6 := (exB_cells hE6).2.2
                  have HB6 := hid (HB5.out.trans (Bxe.of_below hb6 (Nat.le_refl _)))
                  clear hb6 hE6)
               | (go_at_call 37
                  refine (HT.out _).mono ?_
                  rintro e w5 ⟨rfl, hb5⟩
                  have HE5 := hid (exB_keep HEd.out hb5 HLD.out)
                  obtain ⟨q0, q1, q2⟩ := (exB_cells HE5.out).1
                  have HB5 := hid (show Bxe w3.heap.size wr w5 from (Bxe.of_below (Below.refl wr.heap.size wr).drew (Nat.le_refl _)).trans (Bxe.of_below hb5 (Nat.le_refl _)))
                  clear hb5))
           all_goals
             go_wp2_with fail
             go_roundw
             case rel => exact ⟨i + 1, by omega, by go_num, hid (by rw [HSN.out]; exact exB_set HE6.out), hid (hX.out.trans (((HB6.out.set _).set _).set _))⟩
             case measure => simp [intOf]; omega
         · have hin : i = bl := by omega
           subst hin
           have c := (cells_of_six ((hkw b hlt0).trans HBLK.out))
           have d3 := c.2.2.2.1
           have d4 := c.2.2.2.2.1
           have d5 := c.2.2.2.2.2.1
           simp only [tyV] at d4
           clear c hkw hlt
           have HE := hid (show (bs.map fun s => Ex.atom s.size).take i = bs.map fun s => Ex.atom s.size from List.take_of_length_le (by rw [List.length_map, HBL.out]; omega))
           rw [HE.out] at hE
           have HEA := hid (show ExB wr w3.heap.size (exT none (exB bs (Ex.head hd.size))) from hE.out)
           have HXA := hX
           obtain ⟨E3, hE3⟩ : ∃ E3, exT none (exB bs (Ex.head hd.size)) = E3 := ⟨_, rfl⟩
           have HFIN2 := hid (show Tm.exs ks (exT none (exB bs (Ex.head hd.size))) = wis E3 (ks.map Tm.ex) from by rw [← hE3]; exact HFIN.out)
           rw [hE3] at HEA HOK4
           clear hE3 hE hX hz hi HE
           go_wp2_with fail
           go_loopw [54] (fun u wr => ∃ i : Nat, i ≤ kl ∧ u = .int .i64 (i : Int) ∧ Hid (ExB wr w3.heap.size (wis E3 ((ks.map Tm.ex).take i))) ∧ Hid (Bxe w3.heap.size w3 wr)) (fun u _ => kl - (intOf u).toNat)
           case atStart => exact ⟨0, Nat.zero_le _, rfl, HEA, HXA⟩
           case round =>
             obtain ⟨i, hi, rfl, hE, hX⟩ := hrel
             have hz := hX.out.size
             have hkw := kept_bx HK3.out hX.out (by omega) (by omega)
             by_cases hlt : i < kl
             · have d1 : (i : Int) < (kl : Int) := by omega
               obtain ⟨x, hx⟩ : ∃ x, ks[i]? = some x := ⟨_, List.getElem?_eq_getElem (by rw [HKL.out]; exact hlt)⟩
               obtain ⟨g, rfl, _, hc⟩ := HKV.out i _ (ptrs_get A hlt)
               have hcc := hkw.cell hc
               obtain ⟨TX0, hT0⟩ : ∃ T, x.ex = T := ⟨_, rfl⟩
               have hti : (ks.map Tm.ex)[i]? = some TX0 := by simp [hx, hT0]
               have hox := exP_ok HOK4.out hti
               have hkd : Kept w0 wr.drew := hkw.below ((Below.refl wr.heap.size wr).drew) (by omega)
               have HT := hid (show Calls Tryz.prog 18 #[.pointer (some ⟨A i, 0, none⟩)] wr.drew fun e w' => e = .returned (exV TX0) ∧ Below wr.drew.heap.size wr.drew w' from by rw [← hT0] at hox ⊢; exact HIH.out i x hx hox wr.drew hkd (by simp; omega))
               clear hx hc hT0 hox hkd
               have hsn := wis_snoc E3 (ks.map Tm.ex) i TX0 hti
               have hok1 := exL_ok HOK4.out i
               have hok2 := exP_ok HOK4.out hti
               obtain ⟨E, hEE⟩ : ∃ E, wis E3 ((ks.map Tm.ex).take i) = E := ⟨_, rfl⟩
               rw [hEE] at hE hsn hok1
               have HSN := hid hsn
               have HO1 := hid hok1
               have HOX := hid hok2
               obtain ⟨TX, hTX⟩ : ∃ TX, TX0 = TX := ⟨_, rfl⟩
               rw [hTX] at HT HSN HOX
               have HWI := hid (fun W => (show Calls Tryz.prog 39 #[.agg #[.int .i64 (E.a : Int), .int .i64 (E.b : Int), .int .i64 (E.n : Int)], exV TX] W fun r w' => r = .returned (.agg #[.int .i64 ((E.wi TX).a : Int), .int .i64 ((E.wi TX).b : Int), .int .i64 ((E.wi TX).n : Int)]) ∧ Below W.heap.size W w' from exWith_any E TX HO1.out HOX.out W))
               have HEd := hid (exB_keep hE.out ((Below.refl wr.heap.size wr).drew) (lt_of_block hE.out))
               obtain ⟨⟨c0, c1, c2⟩, ⟨z0, z1, z2⟩, l0⟩ := exB_cells hE.out
               obtain ⟨⟨e0, e1, e2⟩, _, hll⟩ := exB_cells HEd.out
               have HLD := hid hll
               clear hti hsn hok1 hok2 hEE hTX hll hkw
               go_wp2_with fail
               go_region_with (first
                   | (have _ := HE5
                      go_at_call 39
                      refine (HWI.out _).mono ?_
                      rintro e w6 ⟨rfl, hb6⟩
                      have hE6 := exB_keep HE5.out hb6 (lt_of_block HE5.out)
                      have HE6 := hid hE6
                      obtain ⟨x0, x1, x2⟩ := (exB_cells hE6).1
                      obtain ⟨y0, y1, y2⟩ := (exB_cells hE6).2.1
                      have l6 := (exB_cells hE6).2.2
                      have HB6 := hid (HB5.out.trans (Bxe.of_below hb6 (Nat.le_refl _)))
                      clear hb6 hE6)
                   | (go_at_call 18
                      refine (HT.out).mono ?_
                      rintro e w5 ⟨rfl, hb5⟩
                      have HE5 := hid (exB_keep HEd.out hb5 HLD.out)
                      obtain ⟨q0, q1, q2⟩ := (exB_cells HE5.out).1
                      have HB5 := hid (show Bxe w3.heap.size wr w5 from (Bxe.of_below (Below.refl wr.heap.size wr).drew (Nat.le_refl _)).trans (Bxe.of_below hb5 (Nat.le_refl _)))
                      clear hb5))
               all_goals
                 go_wp2_with fail
                 go_roundw
                 case rel => exact ⟨i + 1, by omega, by go_num, hid (by rw [HSN.out]; exact exB_set HE6.out), hid (hX.out.trans (((HB6.out.set _).set _).set _))⟩
                 case measure => simp [intOf]; omega
             · have hin : i = kl := by omega
               subst hin
               have HE := hid (show (ks.map Tm.ex).take i = ks.map Tm.ex from List.take_of_length_le (by rw [List.length_map, HKL.out]; omega))
               rw [HE.out] at hE
               obtain ⟨c0, c1, c2⟩ := (exB_cells hE.out).1
               have hE0 : ExB wr w.heap.size ⟨0, 0, 0⟩ := (hX.out.block w.heap.size (by omega) (by omega)).trans HE3.out
               obtain ⟨⟨p0, p1, p2⟩, ⟨y0, y1, y2⟩, l0⟩ := exB_cells hE0
               have HEZ := hid hE0
               clear hlt hE0 hkw
               go_wp2_with fail
               have hres := exB_set (u0 := .int .i64 ((wis E3 (ks.map Tm.ex)).a : Int)) (u1 := .int .i64 ((wis E3 (ks.map Tm.ex)).b : Int)) (u2 := .int .i64 ((wis E3 (ks.map Tm.ex)).n : Int)) HEZ.out
               have hr3 := exB_cells (e := wis E3 (ks.map Tm.ex)) hres
               refine bodyPost_ret (v := .agg #[.int .i64 ((wis E3 (ks.map Tm.ex)).a : Int), .int .i64 ((wis E3 (ks.map Tm.ex)).b : Int), .int .i64 ((wis E3 (ks.map Tm.ex)).n : Int)]) (by simp [results, Tryz.results18, go_sem, hr3.1.1, hr3.1.2.1, hr3.1.2.2]) rfl ?_
               refine ⟨by rw [HFIN2.out]; rfl, HB3.out.trans ?_⟩
               have h1 : Below w.heap.size w3 wr := hX.out.to_below (by omega) (by omega)
               exact ((h1.setCell (Nat.le_refl _) _).setCell (Nat.le_refl _) _).setCell (Nat.le_refl _) _
     | some t =>
       obtain ⟨tn, tv, htv⟩ := t.val_iface
       have hokt : t.ex.ok := exOk_le HO3.out (by show t.ex.a ≤ _ + t.ex.a; omega) (by show t.ex.b ≤ _ + 1 + t.ex.b; omega) (by show t.ex.n ≤ max _ (1 + t.ex.n); omega)
       have HTA := hid (fun W => extT_any t hokt W)
       rw [htv] at HTA
       have HTV := hid (show tyV (some t) = .iface tn tv from htv)
       clear htv hokt
       rw [HTV.out] at c4
       go_enter Tryz.func18, Tryz.ntmps18
       go_wp2_with fail
       go_at_call 38
       refine (HEH.out _).mono ?_
       rintro e w3 ⟨rfl, hb3⟩
       have hz3 := hb3.size
       have HE3 := hid (exB_keep HE0.out hb3 (by omega))
       have HB3 := hid (HB0.out.trans (hb3.mono (by omega)))
       have HK3 := hid (HKE.out.below hb3 (by omega))
       have HE4 := hid (show ExB (w3.alloc (.cells #[.int .i64 1, .int .i64 (2 + (hd.size : Int)), .int .i64 1] 44)) w3.heap.size (Ex.head hd.size) from heap_new w3 _ _ rfl)
       have HX4 := hid (Bxe.of_below (b := w3.heap.size) ((Below.refl w3.heap.size w3).alloc (Nat.le_refl _) (.cells #[.int .i64 1, .int .i64 (2 + (hd.size : Int)), .int .i64 1] 44)) (Nat.le_refl _))
       have k4 := kept_bx HK3.out HX4.out (by omega) (by omega)
       have c := (cells_of_six ((k4 b hlt0).trans HBLK.out))
       have d3 := c.2.2.2.1
       have d4 := c.2.2.2.2.1
       have d5 := c.2.2.2.2.2.1
       rw [HTV.out] at d4
       clear hb3 c k4 c0 c1 c3 c4 c5
       go_wp2_with fail
       go_loopw [28] (fun u wr => ∃ i : Nat, i ≤ bl ∧ u = .int .i64 (i : Int) ∧ Hid (ExB wr w3.heap.size (wis (Ex.head hd.size) ((bs.map fun s => Ex.atom s.size).take i))) ∧ Hid (Bxe w3.heap.size w3 wr)) (fun u _ => bl - (intOf u).toNat)
       case atStart => exact ⟨0, Nat.zero_le _, rfl, HE4, HX4⟩
       case round =>
         obtain ⟨i, hi, rfl, hE, hX⟩ := hrel
         have hz := hX.out.size
         have hkw := kept_bx HK3.out hX.out (by omega) (by omega)
         by_cases hlt : i < bl
         · have d1 : (i : Int) < (bl : Int) := by omega
           obtain ⟨x, hx⟩ : ∃ x, bs[i]? = some x := ⟨_, List.getElem?_eq_getElem (by rw [HBL.out]; exact hlt)⟩
           obtain ⟨g, rfl, _, hc⟩ := HBV.out i (.string x) (by simp [hx])
           have hcc := hkw.cell hc
           obtain ⟨TX0, hT0⟩ : ∃ T, Ex.atom x.size = T := ⟨_, rfl⟩
           have HT := hid (fun W => (show Calls Tryz.prog 37 #[.string x] W fun e w' => e = .returned (exV TX0) ∧ Below W.heap.size W w' from by rw [← hT0]; exact exAtom_any x W))
           have hti : (bs.map fun s => Ex.atom s.size)[i]? = some TX0 := by simp [hx, hT0]
           clear hx hc hT0
           have hsn := wis_snoc (Ex.head hd.size) (bs.map fun s => Ex.atom s.size) i TX0 hti
           have hok1 := exL_ok HO2.out i
           have hok2 := exP_ok HO2.out hti
           obtain ⟨E, hEE⟩ : ∃ E, wis (Ex.head hd.size) ((bs.map fun s => Ex.atom s.size).take i) = E := ⟨_, rfl⟩
           rw [hEE] at hE hsn hok1
           have HSN := hid hsn
           have HO1 := hid hok1
           have HOX := hid hok2
           obtain ⟨TX, hTX⟩ : ∃ TX, TX0 = TX := ⟨_, rfl⟩
           rw [hTX] at HT HSN HOX
           have HWI := hid (fun W => (show Calls Tryz.prog 39 #[.agg #[.int .i64 (E.a : Int), .int .i64 (E.b : Int), .int .i64 (E.n : Int)], exV TX] W fun r w' => r = .returned (.agg #[.int .i64 ((E.wi TX).a : Int), .int .i64 ((E.wi TX).b : Int), .int .i64 ((E.wi TX).n : Int)]) ∧ Below W.heap.size W w' from exWith_any E TX HO1.out HOX.out W))
           have HEd := hid (exB_keep hE.out ((Below.refl wr.heap.size wr).drew) (lt_of_block hE.out))
           obtain ⟨⟨c0, c1, c2⟩, ⟨z0, z1, z2⟩, l0⟩ := exB_cells hE.out
           obtain ⟨⟨e0, e1, e2⟩, _, hll⟩ := exB_cells HEd.out
           have HLD := hid hll
           clear hti hsn hok1 hok2 hEE hTX hll hkw
           go_wp2_with fail
           go_region_with (first
               | (have _ := HE5
                  go_at_call 39
                  refine (HWI.out _).mono ?_
                  rintro e w6 ⟨rfl, hb6⟩
                  have hE6 := exB_keep HE5.out hb6 (lt_of_block HE5.out)
                  have HE6 := hid hE6
                  obtain ⟨x0, x1, x2⟩ := (exB_cells hE6).1
                  obtain ⟨y0, y1, y2⟩ := (exB_cells hE6).2.1
                  have l6 := (exB_cells hE6).2.2
                  have HB6 := hid (HB5.out.trans (Bxe.of_below hb6 (Nat.le_refl _)))
                  clear hb6 hE6)
               | (go_at_call 37
                  refine (HT.out _).mono ?_
                  rintro e w5 ⟨rfl, hb5⟩
                  have HE5 := hid (exB_keep HEd.out hb5 HLD.out)
                  obtain ⟨q0, q1, q2⟩ := (exB_cells HE5.out).1
                  have HB5 := hid (show Bxe w3.heap.size wr w5 from (Bxe.of_below (Below.refl wr.heap.size wr).drew (Nat.le_refl _)).trans (Bxe.of_below hb5 (Nat.le_refl _)))
                  clear hb5))
           all_goals
             go_wp2_with fail
             go_roundw
             case rel => exact ⟨i + 1, by omega, by go_num, hid (by rw [HSN.out]; exact exB_set HE6.out), hid (hX.out.trans (((HB6.out.set _).set _).set _))⟩
             case measure => simp [intOf]; omega
         · have hin : i = bl := by omega
           subst hin
           have c := (cells_of_six ((hkw b hlt0).trans HBLK.out))
           have d3 := c.2.2.2.1
           have d4 := c.2.2.2.2.1
           have d5 := c.2.2.2.2.2.1
           rw [HTV.out] at d4
           clear c hkw hlt
           have HE := hid (show (bs.map fun s => Ex.atom s.size).take i = bs.map fun s => Ex.atom s.size from List.take_of_length_le (by rw [List.length_map, HBL.out]; omega))
           rw [HE.out] at hE
           have hE2 : ExB wr w3.heap.size (exB bs (Ex.head hd.size)) := hE.out
           obtain ⟨E, hEE⟩ : ∃ E, exB bs (Ex.head hd.size) = E := ⟨_, rfl⟩
           have HFIN2 := hid (show Tm.exs ks (exT (some t) (exB bs (Ex.head hd.size))) = wis (E.wi t.ex) (ks.map Tm.ex) from by rw [← hEE]; exact HFIN.out)
           have HOK5 := hid (show (wis (E.wi t.ex) (ks.map Tm.ex)).ok from by rw [← hEE]; exact HOK4.out)
           have HO1 := hid (show E.ok from by rw [← hEE]; exact HO2.out)
           have HO3b := hid (show (E.wi t.ex).ok from by rw [← hEE]; exact HO3.out)
           rw [hEE] at hE2
           clear hEE hE HE HO2 HO3 HOK4 HFIN
           obtain ⟨TX, hTX⟩ : ∃ TX, t.ex = TX := ⟨_, rfl⟩
           rw [hTX] at HTA HFIN2 HOK5 HO3b
           have HOX := hid (show TX.ok from exOk_le HO3b.out (by show TX.a ≤ _ + TX.a; omega) (by show TX.b ≤ _ + 1 + TX.b; omega) (by show TX.n ≤ max _ (1 + TX.n); omega))
           have HWI := hid (fun W => (show Calls Tryz.prog 39 #[.agg #[.int .i64 (E.a : Int), .int .i64 (E.b : Int), .int .i64 (E.n : Int)], exV TX] W fun r w' => r = .returned (.agg #[.int .i64 ((E.wi TX).a : Int), .int .i64 ((E.wi TX).b : Int), .int .i64 ((E.wi TX).n : Int)]) ∧ Below W.heap.size W w' from exWith_any E TX HO1.out HOX.out W))
           have HEd := hid (exB_keep hE2 ((Below.refl wr.heap.size wr).drew) (lt_of_block hE2))
           obtain ⟨⟨c0, c1, c2⟩, ⟨z0, z1, z2⟩, l0⟩ := exB_cells hE2
           obtain ⟨⟨e0, e1, e2⟩, _, hll⟩ := exB_cells HEd.out
           have HLD := hid hll
           have f4 : wr.drew.cell? ⟨b, 4, none⟩ = some (.iface tn tv) := d4
           clear hTX hll hi hz
           go_wp2_with fail
           go_region_with (first
               | (have _ := HE5
                  go_at_call 39
                  refine (HWI.out _).mono ?_
                  rintro e w6 ⟨rfl, hb6⟩
                  have hE6 := exB_keep HE5.out hb6 (lt_of_block HE5.out)
                  have HE6 := hid hE6
                  obtain ⟨x0, x1, x2⟩ := (exB_cells hE6).1
                  obtain ⟨y0, y1, y2⟩ := (exB_cells hE6).2.1
                  have l6 := (exB_cells hE6).2.2
                  have HB6 := hid (HB5.out.trans (Bxe.of_below hb6 (Nat.le_refl _)))
                  clear hb6 hE6)
               | (go_at_call 40
                  refine (HTA.out _).mono ?_
                  rintro e w5 ⟨rfl, hb5⟩
                  have HE5 := hid (exB_keep HEd.out hb5 HLD.out)
                  obtain ⟨q0, q1, q2⟩ := (exB_cells HE5.out).1
                  have HB5 := hid (show Bxe w3.heap.size wr w5 from (Bxe.of_below (Below.refl wr.heap.size wr).drew (Nat.le_refl _)).trans (Bxe.of_below hb5 (Nat.le_refl _)))
                  clear hb5))
           all_goals
             have HEA := hid (show ExB (((w6.setCell ⟨w3.heap.size, 0, none⟩ (.int .i64 ((E.wi TX).a : Int))).setCell ⟨w3.heap.size, 1, none⟩ (.int .i64 ((E.wi TX).b : Int))).setCell ⟨w3.heap.size, 2, none⟩ (.int .i64 ((E.wi TX).n : Int))) w3.heap.size (E.wi TX) from exB_set HE6.out)
             have HXA := hid (show Bxe w3.heap.size w3 (((w6.setCell ⟨w3.heap.size, 0, none⟩ (.int .i64 ((E.wi TX).a : Int))).setCell ⟨w3.heap.size, 1, none⟩ (.int .i64 ((E.wi TX).b : Int))).setCell ⟨w3.heap.size, 2, none⟩ (.int .i64 ((E.wi TX).n : Int))) from hX.out.trans (((HB6.out.set _).set _).set _))
             have k6 := kept_bx HK3.out HXA.out (by omega) (by omega)
             have g5 := (cells_of_six ((k6 b hlt0).trans HBLK.out)).2.2.2.2.2.1
             obtain ⟨E3, hE3⟩ : ∃ E3, E.wi TX = E3 := ⟨_, rfl⟩
             have HEA2 := hid (fun (W : World) (h : ExB W w3.heap.size (E.wi TX)) => (show ExB W w3.heap.size E3 from by rw [← hE3]; exact h))
             have HOK4 := hid (show (wis E3 (ks.map Tm.ex)).ok from by rw [← hE3]; exact HOK5.out)
             have HFIN3 := hid (show Tm.exs ks (exT (some t) (exB bs (Ex.head hd.size))) = wis E3 (ks.map Tm.ex) from by rw [← hE3]; exact HFIN2.out)
             clear hX k6 hE3 HFIN2 HOK5
             go_wp2_with fail
             go_loopw [54] (fun u wr => ∃ i : Nat, i ≤ kl ∧ u = .int .i64 (i : Int) ∧ Hid (ExB wr w3.heap.size (wis E3 ((ks.map Tm.ex).take i))) ∧ Hid (Bxe w3.heap.size w3 wr)) (fun u _ => kl - (intOf u).toNat)
             case atStart => exact ⟨0, Nat.zero_le _, rfl, (hid (HEA2.out _ HEA.out)), HXA⟩
             case round =>
               obtain ⟨i, hi, rfl, hE, hX⟩ := hrel
               have hz := hX.out.size
               have hkw := kept_bx HK3.out hX.out (by omega) (by omega)
               by_cases hlt : i < kl
               · have d1 : (i : Int) < (kl : Int) := by omega
                 obtain ⟨x, hx⟩ : ∃ x, ks[i]? = some x := ⟨_, List.getElem?_eq_getElem (by rw [HKL.out]; exact hlt)⟩
                 obtain ⟨g, rfl, _, hc⟩ := HKV.out i _ (ptrs_get A hlt)
                 have hcc := hkw.cell hc
                 obtain ⟨TX0, hT0⟩ : ∃ T, x.ex = T := ⟨_, rfl⟩
                 have hti : (ks.map Tm.ex)[i]? = some TX0 := by simp [hx, hT0]
                 have hox := exP_ok HOK4.out hti
                 have hkd : Kept w0 wr.drew := hkw.below ((Below.refl wr.heap.size wr).drew) (by omega)
                 have HT := hid (show Calls Tryz.prog 18 #[.pointer (some ⟨A i, 0, none⟩)] wr.drew fun e w' => e = .returned (exV TX0) ∧ Below wr.drew.heap.size wr.drew w' from by rw [← hT0] at hox ⊢; exact HIH.out i x hx hox wr.drew hkd (by simp; omega))
                 clear hx hc hT0 hox hkd
                 have hsn := wis_snoc E3 (ks.map Tm.ex) i TX0 hti
                 have hok1 := exL_ok HOK4.out i
                 have hok2 := exP_ok HOK4.out hti
                 obtain ⟨E, hEE⟩ : ∃ E, wis E3 ((ks.map Tm.ex).take i) = E := ⟨_, rfl⟩
                 rw [hEE] at hE hsn hok1
                 have HSN := hid hsn
                 have HO1 := hid hok1
                 have HOX := hid hok2
                 obtain ⟨TX, hTX⟩ : ∃ TX, TX0 = TX := ⟨_, rfl⟩
                 rw [hTX] at HT HSN HOX
                 have HWI := hid (fun W => (show Calls Tryz.prog 39 #[.agg #[.int .i64 (E.a : Int), .int .i64 (E.b : Int), .int .i64 (E.n : Int)], exV TX] W fun r w' => r = .returned (.agg #[.int .i64 ((E.wi TX).a : Int), .int .i64 ((E.wi TX).b : Int), .int .i64 ((E.wi TX).n : Int)]) ∧ Below W.heap.size W w' from exWith_any E TX HO1.out HOX.out W))
                 have HEd := hid (exB_keep hE.out ((Below.refl wr.heap.size wr).drew) (lt_of_block hE.out))
                 obtain ⟨⟨c0, c1, c2⟩, ⟨z0, z1, z2⟩, l0⟩ := exB_cells hE.out
                 obtain ⟨⟨e0, e1, e2⟩, _, hll⟩ := exB_cells HEd.out
                 have HLD := hid hll
                 clear hti hsn hok1 hok2 hEE hTX hll hkw
                 go_wp2_with fail
                 go_region_with (first
                     | (have _ := HE5
                        go_at_call 39
                        refine (HWI.out _).mono ?_
                        rintro e w6 ⟨rfl, hb6⟩
                        have hE6 := exB_keep HE5.out hb6 (lt_of_block HE5.out)
                        have HE6 := hid hE6
                        obtain ⟨x0, x1, x2⟩ := (exB_cells hE6).1
                        obtain ⟨y0, y1, y2⟩ := (exB_cells hE6).2.1
                        have l6 := (exB_cells hE6).2.2
                        have HB6 := hid (HB5.out.trans (Bxe.of_below hb6 (Nat.le_refl _)))
                        clear hb6 hE6)
                     | (go_at_call 18
                        refine (HT.out).mono ?_
                        rintro e w5 ⟨rfl, hb5⟩
                        have HE5 := hid (exB_keep HEd.out hb5 HLD.out)
                        obtain ⟨q0, q1, q2⟩ := (exB_cells HE5.out).1
                        have HB5 := hid (show Bxe w3.heap.size wr w5 from (Bxe.of_below (Below.refl wr.heap.size wr).drew (Nat.le_refl _)).trans (Bxe.of_below hb5 (Nat.le_refl _)))
                        clear hb5))
                 all_goals
                   go_wp2_with fail
                   go_roundw
                   case rel => exact ⟨i + 1, by omega, by go_num, hid (by rw [HSN.out]; exact exB_set HE6.out), hid (hX.out.trans (((HB6.out.set _).set _).set _))⟩
                   case measure => simp [intOf]; omega
               · have hin : i = kl := by omega
                 subst hin
                 have HE := hid (show (ks.map Tm.ex).take i = ks.map Tm.ex from List.take_of_length_le (by rw [List.length_map, HKL.out]; omega))
                 rw [HE.out] at hE
                 obtain ⟨c0, c1, c2⟩ := (exB_cells hE.out).1
                 have hE0 : ExB wr w.heap.size ⟨0, 0, 0⟩ := (hX.out.block w.heap.size (by omega) (by omega)).trans HE3.out
                 obtain ⟨⟨p0, p1, p2⟩, ⟨y0, y1, y2⟩, l0⟩ := exB_cells hE0
                 have HEZ := hid hE0
                 clear hlt hE0 hkw
                 go_wp2_with fail
                 have hres := exB_set (u0 := .int .i64 ((wis E3 (ks.map Tm.ex)).a : Int)) (u1 := .int .i64 ((wis E3 (ks.map Tm.ex)).b : Int)) (u2 := .int .i64 ((wis E3 (ks.map Tm.ex)).n : Int)) HEZ.out
                 have hr3 := exB_cells (e := wis E3 (ks.map Tm.ex)) hres
                 refine bodyPost_ret (v := .agg #[.int .i64 ((wis E3 (ks.map Tm.ex)).a : Int), .int .i64 ((wis E3 (ks.map Tm.ex)).b : Int), .int .i64 ((wis E3 (ks.map Tm.ex)).n : Int)]) (by simp [results, Tryz.results18, go_sem, hr3.1.1, hr3.1.2.1, hr3.1.2.2]) rfl ?_
                 refine ⟨by rw [HFIN3.out]; rfl, HB3.out.trans ?_⟩
                 have h1 : Below w.heap.size w3 wr := hX.out.to_below (by omega) (by omega)
                 exact ((h1.setCell (Nat.le_refl _) _).setCell (Nat.le_refl _) _).setCell (Nat.le_refl _) _
   · have HX := hid (show (Tm.mk hd a d bs ty ks).ex = Ex.atom a.size by rw [Tm.ex, if_neg ha])
     rw [HX.out]
     have hae : a.toList.isEmpty = false := by
       cases h : a.toList with
       | nil => exact absurd h ha
       | cons x l => rfl
     have HEA := hid (fun W => (show Calls Tryz.prog 37 #[.string a] W fun e w' => e = .returned (.agg #[.int .i64 1, .int .i64 (a.size : Int), .int .i64 0]) ∧ Below W.heap.size W w' from exAtom_any a W))
     clear ha hok
     go_enter Tryz.func18, Tryz.ntmps18
     go_wp2_with fail
     go_at_call 37
     refine (HEA.out _).mono ?_
     rintro e w3 ⟨rfl, hb3⟩
     have hE3 := exB_keep HE0.out hb3 (by omega)
     have HE3 := hid hE3
     have HB3 := hid (HB0.out.trans (hb3.mono (by omega)))
     obtain ⟨⟨p0, p1, p2⟩, ⟨y0, y1, y2⟩, l0⟩ := exB_cells hE3
     clear hb3 hE3
     go_wp2_with fail
     have hres := exB_set (u0 := .int .i64 1) (u1 := .int .i64 (a.size : Int)) (u2 := .int .i64 0) HE3.out
     have hr3 := exB_cells (e := ⟨1, a.size, 0⟩) hres
     refine bodyPost_ret (v := .agg #[.int .i64 1, .int .i64 (a.size : Int), .int .i64 0]) (by
       have h0 := hr3.1.1
       have h1 := hr3.1.2.1
       have h2 := hr3.1.2.2
       simp at h0 h1 h2
       simp [results, Tryz.results18, go_sem, h0, h1, h2]) rfl ?_
     exact ⟨rfl, ((HB3.out.setCell (Nat.le_refl _) _).setCell (Nat.le_refl _) _).setCell (Nat.le_refl _) _⟩
end Go.Proofs.YtagifgekhboinaaGreatDoor
