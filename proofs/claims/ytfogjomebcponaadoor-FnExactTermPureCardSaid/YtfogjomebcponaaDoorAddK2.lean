/- A term under construction: addKid, asked for a computation. -/
import Derived.Test.YtfogjomebcponaaDoorAddK0
namespace Go.Proofs.YtfogjomebcponaaDoor
open Go.RowKit

set_option maxRecDepth 100000 in
set_option maxHeartbeats 2000000 in
theorem addKid_none_false {w0 : World} {p : Tree} {h : Hd} (ih : TmAsk w0 p h) (b : Nat) (hd : ByteArray) (st : St) (ar : List ByteArray) (q : Option Addr) (n c : Nat) (w : World) (hst : Bld w b hd st) (hk : Kept w0 w) (hw : w0.heap.size ≤ w.heap.size) (hv : SV w q n c ar) (hn : n + st.binds.length + p.wt ≤ 12000) (ho : p.tm (ar ++ st.binds) = none) :
    Calls Tryd.prog 64 #[.pointer (some ⟨b, 0, none⟩), .agg #[.string h.a, .slice h.p h.l h.c], .string (vS false), .slice q n c] w (PartPost (addK false (p.tm (ar ++ st.binds)) st) b hd w) := by
  have HO := hid ho
  have HX := hid (show addK false (p.tm (ar ++ st.binds)) st = none by rw [ho]; rfl)
  clear ho
  obtain ⟨bp, bl, bc, kp, kl, kc, A, H0⟩ := hst
  have H := hid H0
  have hlt := lt_of_block H0.heap
  have hbl := H0.bl
  have k0 := cells_of_six H0.heap
  have HIH := hid ih
  have HK := hid hk
  have HV := hid hv
  have HSV := hid H0.sv
  rw [hbl] at hn
  have HCC := hid (fun (Wx : World) (g : Nat) (hkx : Kept w Wx) (e0 : Wx.cell? ⟨g, 0, none⟩ = some (.slice q n c)) (e1 : Wx.cell? ⟨g, 1, none⟩ = some (.slice bp bl bc)) => concat_two g 2 q bp n bl c bc ar st.binds Wx (HV.out.kept hkx) (HSV.out.kept hkx) (by omega) (by omega) e0 e1)
  clear H0 ih hk hv hbl
  obtain ⟨pa, pp, pl, pc⟩ := h
  go_enter Tryd.func64, Tryd.ntmps64
  go_wp2_with fail
  go_region_with (first
    | (go_at_call 72; refine (HCC.out ((w.alloc (.cells #[.string pa, .slice pp pl pc] 45)).alloc (.cells #[.slice q n c, .slice bp bl bc] 52)).drew (w.heap.size + 1) (show Kept w ((w.alloc (.cells #[.string pa, .slice pp pl pc] 45)).alloc (.cells #[.slice q n c, .slice bp bl bc] 52)) from ((Kept.refl w).alloc (Nat.le_refl _) _).alloc (by simp) _) (show ((w.alloc (.cells #[.string pa, .slice pp pl pc] 45)).alloc (.cells #[.slice q n c, .slice bp bl bc] 52)).cell? ⟨w.heap.size + 1, 0, none⟩ = _ from (cells_of_pair (heap_new _ _ _ (by simp))).1) (show ((w.alloc (.cells #[.string pa, .slice pp pl pc] 45)).alloc (.cells #[.slice q n c, .slice bp bl bc] 52)).cell? ⟨w.heap.size + 1, 1, none⟩ = _ from (cells_of_pair (heap_new _ _ _ (by simp))).2.1)).mono ?_; rintro e w2 ⟨q2, kc2, rfl, hown2, hb2⟩; have SV2 := hid (sv_own hown2); have hB2 := hid (kid_frame hb2); have hz2 := hB2.out.size; have kp2 := cells_of_pair (kid_phrase hb2); have kb2 := cells_of_six (H.out.under hB2.out).heap; clear hown2 hb2)
    | (go_at_call 45; refine (HIH.out (ar ++ st.binds) _ _ _ _ (HK.out.below hB2.out hw) (Nat.le_trans hw hz2) SV2.out (by omega)).mono ?_; rintro e w3 hp; rw [HO.out] at hp; obtain ⟨rfl, hb3⟩ := hp.none; have hB3 := hid (hB2.out.trans (hb3.mono hz2)); clear hb3; clear hp))
  all_goals
    go_wp2_with fail
    go_ret
    rw [HX.out]
    exact ⟨hB3.out.mono (by omega), rfl⟩

set_option maxRecDepth 100000 in
set_option maxHeartbeats 4000000 in
theorem addKid_false_true {w0 : World} {p : Tree} {h : Hd} (ih : TmAsk w0 p h) (b : Nat) (hd : ByteArray) (st : St) (ar : List ByteArray) (q : Option Addr) (n c : Nat) (w : World) (hst : Bld w b hd st) (hk : Kept w0 w) (hw : w0.heap.size ≤ w.heap.size) (hv : SV w q n c ar) (hn : n + st.binds.length + p.wt ≤ 12000) (m : Tm) (ho : p.tm (ar ++ st.binds) = some m) (hm : m.isVal = true) :
    Calls Tryd.prog 64 #[.pointer (some ⟨b, 0, none⟩), .agg #[.string h.a, .slice h.p h.l h.c], .string strC, .slice q n c] w (PartPost (addK false (p.tm (ar ++ st.binds)) st) b hd w) := by
  have HO := hid ho
  have HX := hid (show addK false (p.tm (ar ++ st.binds)) st = none by rw [ho, addK]; simp [hm])
  have HS := hid (fun (W : World) (S : Nat → Prop) (a : Nat) (hn : NIn W S m a) => (show Calls Tryd.prog 73 #[.pointer (some ⟨a, 0, none⟩)] W fun e w' => e = .returned (.string strV) ∧ W = w' from by have := sort_node hn; rw [hm] at this; exact this))
  have e1 := vc_ne
  have e2 := cv_ne
  clear ho hm
  obtain ⟨bp, bl, bc, kp, kl, kc, A, H0⟩ := hst
  have H := hid H0
  have hlt := lt_of_block H0.heap
  have hbl := H0.bl
  have k0 := cells_of_six H0.heap
  have HIH := hid ih
  have HK := hid hk
  have HV := hid hv
  have HSV := hid H0.sv
  rw [hbl] at hn
  have HCC := hid (fun (Wx : World) (g : Nat) (hkx : Kept w Wx) (e0 : Wx.cell? ⟨g, 0, none⟩ = some (.slice q n c)) (e1 : Wx.cell? ⟨g, 1, none⟩ = some (.slice bp bl bc)) => concat_two g 2 q bp n bl c bc ar st.binds Wx (HV.out.kept hkx) (HSV.out.kept hkx) (by omega) (by omega) e0 e1)
  clear H0 ih hk hv hbl
  obtain ⟨pa, pp, pl, pc⟩ := h
  go_enter Tryd.func64, Tryd.ntmps64
  go_wp2_with fail
  go_region_with (first
    | (go_at_call 72; refine (HCC.out ((w.alloc (.cells #[.string pa, .slice pp pl pc] 45)).alloc (.cells #[.slice q n c, .slice bp bl bc] 52)).drew (w.heap.size + 1) (show Kept w ((w.alloc (.cells #[.string pa, .slice pp pl pc] 45)).alloc (.cells #[.slice q n c, .slice bp bl bc] 52)) from ((Kept.refl w).alloc (Nat.le_refl _) _).alloc (by simp) _) (show ((w.alloc (.cells #[.string pa, .slice pp pl pc] 45)).alloc (.cells #[.slice q n c, .slice bp bl bc] 52)).cell? ⟨w.heap.size + 1, 0, none⟩ = _ from (cells_of_pair (heap_new _ _ _ (by simp))).1) (show ((w.alloc (.cells #[.string pa, .slice pp pl pc] 45)).alloc (.cells #[.slice q n c, .slice bp bl bc] 52)).cell? ⟨w.heap.size + 1, 1, none⟩ = _ from (cells_of_pair (heap_new _ _ _ (by simp))).2.1)).mono ?_; rintro e w2 ⟨q2, kc2, rfl, hown2, hb2⟩; have SV2 := hid (sv_own hown2); have hB2 := hid (kid_frame hb2); have hz2 := hB2.out.size; have kp2 := cells_of_pair (kid_phrase hb2); have kb2 := cells_of_six (H.out.under hB2.out).heap; clear hown2 hb2)
    | (go_at_call 45; refine (HIH.out (ar ++ st.binds) _ _ _ _ (HK.out.below hB2.out hw) (Nat.le_trans hw hz2) SV2.out (by omega)).mono ?_; rintro e w3 hp; rw [HO.out] at hp; obtain ⟨a, rfl, hb3, hn3⟩ := hp.some; have hB3 := hid (hB2.out.trans (hb3.mono hz2)); have HN3 := hid hn3; have hz3 : w2.heap.size ≤ w3.heap.size := hb3.size; have k3 := cells_of_six (H.out.under hB3.out).heap; clear hb3 hn3; clear hp))
  all_goals
    go_wp2_with (go_at_call 73; refine (HS.out _ _ _ HN3.out).mono ?_; rintro e w5 ⟨rfl, rfl⟩)
    go_ret
    rw [HX.out]
    exact ⟨hB3.out.mono (by omega), rfl⟩

set_option maxRecDepth 100000 in
set_option maxHeartbeats 4000000 in
theorem addKid_false_false {w0 : World} {p : Tree} {h : Hd} (ih : TmAsk w0 p h) (b : Nat) (hd : ByteArray) (st : St) (ar : List ByteArray) (q : Option Addr) (n c : Nat) (w : World) (hst : Bld w b hd st) (hk : Kept w0 w) (hw : w0.heap.size ≤ w.heap.size) (hv : SV w q n c ar) (hn : n + st.binds.length + p.wt ≤ 12000) (m : Tm) (ho : p.tm (ar ++ st.binds) = some m) (hm : m.isVal = false) (hkn : st.kids.length ≤ 1000) :
    Calls Tryd.prog 64 #[.pointer (some ⟨b, 0, none⟩), .agg #[.string h.a, .slice h.p h.l h.c], .string strC, .slice q n c] w (PartPost (addK false (p.tm (ar ++ st.binds)) st) b hd w) := by
  have HO := hid ho
  have HX := hid (show addK false (p.tm (ar ++ st.binds)) st = some { st with kids := st.kids ++ [m] } by rw [ho, addK]; simp [hm])
  have HS := hid (fun (W : World) (S : Nat → Prop) (a : Nat) (hn : NIn W S m a) => (show Calls Tryd.prog 73 #[.pointer (some ⟨a, 0, none⟩)] W fun e w' => e = .returned (.string strC) ∧ W = w' from by have := sort_node hn; rw [hm] at this; exact this))
  have e1 := vc_ne
  have e2 := cv_ne
  clear ho hm
  obtain ⟨bp, bl, bc, kp, kl, kc, A, H0⟩ := hst
  have H := hid H0
  have hlt := lt_of_block H0.heap
  have hbl := H0.bl
  have k0 := cells_of_six H0.heap
  have HIH := hid ih
  have HK := hid hk
  have HV := hid hv
  have HSV := hid H0.sv
  rw [hbl] at hn
  have HCC := hid (fun (Wx : World) (g : Nat) (hkx : Kept w Wx) (e0 : Wx.cell? ⟨g, 0, none⟩ = some (.slice q n c)) (e1 : Wx.cell? ⟨g, 1, none⟩ = some (.slice bp bl bc)) => concat_two g 2 q bp n bl c bc ar st.binds Wx (HV.out.kept hkx) (HSV.out.kept hkx) (by omega) (by omega) e0 e1)
  clear H0 ih hk hv hbl
  obtain ⟨pa, pp, pl, pc⟩ := h
  obtain ⟨i0, hi0, hz0, hz1, hz2'⟩ := info_parts Tryd.infoPtr
  have hkl := H.out.hkl
  rw [hkl] at hkn
  clear hkl
  go_enter Tryd.func64, Tryd.ntmps64
  go_wp2_with fail
  go_region_with (first
    | (go_at_call 72; refine (HCC.out ((w.alloc (.cells #[.string pa, .slice pp pl pc] 45)).alloc (.cells #[.slice q n c, .slice bp bl bc] 52)).drew (w.heap.size + 1) (show Kept w ((w.alloc (.cells #[.string pa, .slice pp pl pc] 45)).alloc (.cells #[.slice q n c, .slice bp bl bc] 52)) from ((Kept.refl w).alloc (Nat.le_refl _) _).alloc (by simp) _) (show ((w.alloc (.cells #[.string pa, .slice pp pl pc] 45)).alloc (.cells #[.slice q n c, .slice bp bl bc] 52)).cell? ⟨w.heap.size + 1, 0, none⟩ = _ from (cells_of_pair (heap_new _ _ _ (by simp))).1) (show ((w.alloc (.cells #[.string pa, .slice pp pl pc] 45)).alloc (.cells #[.slice q n c, .slice bp bl bc] 52)).cell? ⟨w.heap.size + 1, 1, none⟩ = _ from (cells_of_pair (heap_new _ _ _ (by simp))).2.1)).mono ?_; rintro e w2 ⟨q2, kc2, rfl, hown2, hb2⟩; have SV2 := hid (sv_own hown2); have hB2 := hid (kid_frame hb2); have hz2 := hB2.out.size; have kp2 := cells_of_pair (kid_phrase hb2); have kb2 := cells_of_six (H.out.under hB2.out).heap; clear hown2 hb2)
    | (go_at_call 45; refine (HIH.out (ar ++ st.binds) _ _ _ _ (HK.out.below hB2.out hw) (Nat.le_trans hw hz2) SV2.out (by omega)).mono ?_; rintro e w3 hp; rw [HO.out] at hp; obtain ⟨a, rfl, hb3, hn3⟩ := hp.some; have hB3 := hid (hB2.out.trans (hb3.mono hz2)); have HN3 := hid hn3; have hz3 : w2.heap.size ≤ w3.heap.size := hb3.size; have k3 := cells_of_six (H.out.under hB3.out).heap; clear hb3 hn3; clear hp))
  all_goals
    go_wp2_with (first
      | (at_builtin; refine wpList_append_at _ rfl (.tmp 35) (.tmp 37) 51 rfl (b + 1) 35 i0 (.pointer none) 1 8 Tryd.underlying51 hi0 hz0 hz1 hz2' rfl (by decide) (.slice kp kl kc) kl _ rfl ((ownsRow_under H.out.kids hB3.out).alloc _) ⟨w3.heap.size, 0, none⟩ 1 1 [.pointer (some ⟨a, 0, none⟩)] rfl rfl (cells_new1 _ _ _ _ rfl) (by intro u hu; simp at hu; subst hu; rfl) (by decide) (by unfold maxLen; omega) (by omega) (by simp; omega) ?_; intro v' w4 hown4 hg4 hw4 hv4; obtain ⟨g2, kc4, rfl⟩ := hv4; have hko : (Value.slice kp kl kc).ownBlock ≠ some b := (fun e => by have := (H.out.kids.lt b e).1; omega); have m4 := cells_of_six (block_grown ((H.out.under (hB3.out.alloc (by omega) (.cells #[.pointer (some ⟨a, 0, none⟩)] 35))).heap) hg4 hko); have HG := hid hg4; have HO4 := hid hown4; have HW := hid hw4; clear hg4 hown4 hw4 hko)
      | (go_at_call 73; refine (HS.out _ _ _ HN3.out).mono ?_; rintro e w5 ⟨rfl, rfl⟩))
    go_ret
    rw [HX.out]
    have hBa := hB3.out.alloc (by omega) (.cells #[.pointer (some ⟨a, 0, none⟩)] 35)
    have hfin := (H.out.under hBa).kid (m := m) (a := a) (HN3.out.keep (fun k _ hl => heap_alloc_old w3 _ hl) (fun x hx _ => ⟨by omega, fun e => by have := (H.out.binds.lt x e).2; omega, fun e => by have := (H.out.kids.lt x e).2; omega⟩)) HO4.out HG.out HW.out
    refine ⟨?_, rfl, _, _, _, _, _, _, _, hfin⟩
    exact ((((hB3.out.mono (show b ≤ w.heap.size by omega)).alloc (by omega) _).grown HG.out (by simp; omega) (fun k e => by have := (H.out.kids.lt k e).1; omega)).setCell (Nat.le_refl _) _)
end Go.Proofs.YtfogjomebcponaaDoor
