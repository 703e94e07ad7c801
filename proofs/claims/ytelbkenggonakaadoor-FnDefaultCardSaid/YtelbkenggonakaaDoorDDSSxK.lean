/- Merged: SxK. -/
import Derived.Deep.RegionWith
import Derived.Test.YtelbkenggonakaaDoorDDSSxJ
namespace Go.Proofs.YtelbkenggonakaaDoor
open Go.RowKit

/-- What reading a part asks. -/
def Ask7 (w0 : World) (p : Tree) (h : Hd) : Prop := ∀ W, Kept w0 W → w0.heap.size ≤ W.heap.size → Calls Tryd.prog 31 #[.agg #[.string h.a, .slice h.p h.l h.c]] W (X7Post p.sx W)

set_option maxRecDepth 100000 in
set_option maxHeartbeats 2000000 in
theorem addPart_x {w0 : World} {S : Nat → Prop} {p : Tree} {h : Hd} (ht : TIn w0 S p h) (hsz : p.text.size ≤ 12000) (b : Nat) (hd : ByteArray) (st : Sst) (o : Option Sx) (w : World) (hst : B7 w b hd st) :
    Calls Tryd.prog 42 #[.pointer (some ⟨b, 0, none⟩), .int .u8 120, .agg #[.string h.a, .slice h.p h.l h.c]] w (P7Post (add7 .x p o st) b hd w) := by
  have hlt := hst.lt
  have HT := hid ht.text
  have HN := hid (fun W => isName_any h.a (by rw [HT.out]; omega) W)
  obtain ⟨pa, pp, pl, pc⟩ := h
  obtain ⟨tp, kp, kl, kc, A, H⟩ := hst
  obtain ⟨tq, rfl⟩ := H.typ.one
  have hb0 : Below w.heap.size w (w.alloc (.cells #[.string pa, .slice pp pl pc] 55)) := (Below.refl _ _).alloc (Nat.le_refl _) _
  have KC := hid (fun W (hb : Below (w.alloc (.cells #[.string pa, .slice pp pl pc] 55)).heap.size (w.alloc (.cells #[.string pa, .slice pp pl pc] 55)) W) => (show (W.cell? ⟨w.heap.size, 0, none⟩ = some (.string pa) ∧ W.cell? ⟨w.heap.size, 1, none⟩ = some (.slice pp pl pc)) ∧ B7At W b hd st (.pointer tq) kp kl kc A from by
    have e := cells_of_pair (block_below (heap_new w (.cells #[.string pa, .slice pp pl pc] 55) _ rfl) hb (by simp))
    exact ⟨⟨e.1, e.2.1⟩, (H.under hb0).under hb⟩))
  have hO : add7 .x p o st = if nameB pa.toList = true then some ⟨pa, st.ty, st.ks⟩ else none := by
    rw [add7, ← HT.out]
  obtain ⟨O, hOO⟩ : ∃ O, add7 .x p o st = O := ⟨_, rfl⟩
  rw [hOO] at hO ⊢
  have HOE := hid hO
  have k0 := cells_of_5 (KC.out _ (Below.refl _ _)).2.heap
  have HB0 := hid hb0
  clear ht hsz H hO hOO hb0
  go_enter Tryd.func42, Tryd.ntmps42
  go_wp2_with fail
  go_region_with (go_at_call 51; refine (HN.out _).mono ?_; rintro e w1 ⟨rfl, hb1⟩; have hb2 : Below (w.alloc (.cells #[.string pa, .slice pp pl pc] 55)).heap.size (w.alloc (.cells #[.string pa, .slice pp pl pc] 55)) w1 := (Below.refl _ _).drew.trans hb1; obtain ⟨⟨c1, c2⟩, hB⟩ := KC.out w1 hb2; have k1 := cells_of_5 hB.heap; have HB2 := hid hb2; have HBA := hid hB; clear hB hb1 hb2)
  all_goals
    go_wp2_with fail
    go_ret
    have hbw0 : Below w.heap.size w w1 := HB0.out.trans (HB2.out.mono (by simp))
    have hbw : Below b w (w1.setCell ⟨b, 2, none⟩ (.string pa)) := (hbw0.mono (Nat.le_of_lt hlt)).setCell (Nat.le_refl _) _
    rw [HOE.out]
    cases hnb : nameB pa.toList with
    | true => exact ⟨hbw, rfl, _, _, _, _, _, HBA.out.name pa⟩
    | false => exact ⟨hbw, rfl⟩

set_option maxRecDepth 100000 in
set_option maxHeartbeats 2000000 in
theorem addPart_s {w0 : World} {S : Nat → Prop} {p : Tree} {h : Hd} (ht : TIn w0 S p h) (hwt : p.wt ≤ 12000) (b : Nat) (hd : ByteArray) (st : Sst) (o : Option Sx) (w : World) (hst : B7 w b hd st) (hk : Kept w0 w) (hw : w0.heap.size ≤ w.heap.size) :
    Calls Tryd.prog 42 #[.pointer (some ⟨b, 0, none⟩), .int .u8 83, .agg #[.string h.a, .slice h.p h.l h.c]] w (P7Post (add7 .s p o st) b hd w) := by
  have hlt := hst.lt
  have HL := hid (fun W hk hw => limitedSourceType_any ht hwt W hk hw)
  obtain ⟨pa, pp, pl, pc⟩ := h
  obtain ⟨tp, kp, kl, kc, A, H⟩ := hst
  obtain ⟨tq, rfl⟩ := H.typ.one
  have hb0 : Below w.heap.size w (w.alloc (.cells #[.string pa, .slice pp pl pc] 55)) := (Below.refl _ _).alloc (Nat.le_refl _) _
  have KC := hid (fun W (hb : Below (w.alloc (.cells #[.string pa, .slice pp pl pc] 55)).heap.size (w.alloc (.cells #[.string pa, .slice pp pl pc] 55)) W) => (show B7At W b hd st (.pointer tq) kp kl kc A from (H.under hb0).under hb))
  have HK := hid (hk.alloc hw (.cells #[.string pa, .slice pp pl pc] 55))
  have HKL := hid (fun k e => H.kids.lt k e)
  have k0 := cells_of_5 (KC.out _ (Below.refl _ _)).heap
  have HB0 := hid hb0
  have hO : add7 .s p o st = match stLim p with | some s => some ⟨st.nm, some s, st.ks⟩ | none => none := rfl
  cases hs : stLim p with
  | none =>
    have HOE := hid (show add7 .s p o st = none by rw [hO, hs])
    obtain ⟨O, hOO⟩ : ∃ O, add7 .s p o st = O := ⟨_, rfl⟩
    rw [hOO] at HOE ⊢
    have HS := hid hs
    clear ht H hO hOO hb0 hk hs
    go_enter Tryd.func42, Tryd.ntmps42
    go_wp2_with (go_at_call 23; refine (HL.out _ HK.out (by simp; omega)).mono ?_; rintro e w1 hp; rw [HS.out] at hp; obtain ⟨rfl, hb1⟩ := hp.none; clear hp; have k1 := cells_of_5 (KC.out w1 hb1).heap; have HB1 := hid hb1; clear hb1)
    go_ret
    rw [HOE.out]
    have hbw0 : Below w.heap.size w w1 := HB0.out.trans (HB1.out.mono (by simp))
    exact ⟨(hbw0.mono (Nat.le_of_lt hlt)).setCell (Nat.le_refl _) _, rfl⟩
  | some s =>
    have HOE := hid (show add7 .s p o st = some ⟨st.nm, some s, st.ks⟩ by rw [hO, hs])
    obtain ⟨O, hOO⟩ : ∃ O, add7 .s p o st = O := ⟨_, rfl⟩
    rw [hOO] at HOE ⊢
    have HS := hid hs
    clear ht H hO hOO hb0 hk hs
    go_enter Tryd.func42, Tryd.ntmps42
    go_wp2_with (go_at_call 23; refine (HL.out _ HK.out (by simp; omega)).mono ?_; rintro e w1 hp; rw [HS.out] at hp; obtain ⟨a1, rfl, hb1, hn1⟩ := hp.some; clear hp; have k1 := cells_of_5 (KC.out w1 hb1).heap; have HB1 := hid hb1; have HN1 := hid hn1; clear hb1 hn1)
    go_ret
    rw [HOE.out]
    have hbw0 : Below w.heap.size w w1 := HB0.out.trans (HB1.out.mono (by simp))
    refine ⟨(hbw0.mono (Nat.le_of_lt hlt)).setCell (Nat.le_refl _) _, rfl, _, _, _, _, _, (KC.out w1 HB1.out).type (HN1.out.wide (fun k hk => ?_))⟩
    simp at hk
    exact ⟨by omega, fun e => by have := (HKL.out k e).2; omega⟩

set_option maxRecDepth 100000 in
set_option maxHeartbeats 4000000 in
theorem addPart_e {w0 : World} {p : Tree} {h : Hd} (ih : Ask7 w0 p h) (b : Nat) (hd : ByteArray) (st : Sst) (w : World) (hst : B7 w b hd st) (hk : Kept w0 w) (hw : w0.heap.size ≤ w.heap.size) (hkn : st.ks.length ≤ 1000) :
    Calls Tryd.prog 42 #[.pointer (some ⟨b, 0, none⟩), .int .u8 101, .agg #[.string h.a, .slice h.p h.l h.c]] w (P7Post (add7 .e p p.sx st) b hd w) := by
  have hlt := hst.lt
  obtain ⟨pa, pp, pl, pc⟩ := h
  obtain ⟨tp, kp, kl, kc, A, H⟩ := hst
  obtain ⟨tq, rfl⟩ := H.typ.one
  rw [H.hkl] at hkn
  have hb0 : Below w.heap.size w (w.alloc (.cells #[.string pa, .slice pp pl pc] 55)) := (Below.refl _ _).alloc (Nat.le_refl _) _
  have HA := hid (ih (w.alloc (.cells #[.string pa, .slice pp pl pc] 55)) (hk.alloc hw _) (by simp; omega))
  have KC := hid (fun W (hb : Below (w.alloc (.cells #[.string pa, .slice pp pl pc] 55)).heap.size (w.alloc (.cells #[.string pa, .slice pp pl pc] 55)) W) => (show B7At W b hd st (.pointer tq) kp kl kc A from (H.under hb0).under hb))
  have HKL := hid (fun k e => H.kids.lt k e)
  have k0 := cells_of_5 (KC.out _ (Below.refl _ _)).heap
  have HB0 := hid hb0
  obtain ⟨i0, hi0, hz0, hz1, hz2⟩ := info_parts Tryd.infoSrc
  cases hs : p.sx with
  | none =>
    have HOE := hid (show add7 .e p none st = none from rfl)
    obtain ⟨O, hOO⟩ : ∃ O, add7 .e p none st = O := ⟨_, rfl⟩
    rw [hOO] at HOE ⊢
    rw [hs] at HA
    clear ih H hOO hb0 hk hs
    go_enter Tryd.func42, Tryd.ntmps42
    go_wp2_with (first | (at_builtin; refine wpList_append_at _ rfl (.tmp 19) (.tmp 21) 67 rfl (b + 1) 41 i0 (.pointer none) 1 8 Tryd.underlying67 hi0 hz0 hz1 hz2 rfl (by decide) (.slice kp kl kc) kl _ rfl ((HBK.out.kids).alloc _) ⟨w1.heap.size, 0, none⟩ 1 1 [.pointer p1] rfl rfl (cells_new1 _ _ _ _ rfl) (by intro u hu; simp at hu; subst hu; rfl) (by decide) (by unfold maxLen; omega) (by omega) (by simp; omega) ?_; intro v' w2 hown2 hg2 hw2 hv2; obtain ⟨g2, kc2, rfl⟩ := hv2; have k2 := cells_of_5 (block_grown (pair_alloc5 HBK.out.heap _) hg2 (fun e => by have := (HKL.out b e).1; omega)); have HG := hid hg2; have HO := hid hown2; have HWW := hid hw2; clear hg2 hown2 hw2) | (go_at_call 31; refine HA.out.mono ?_; rintro e w1 hp; obtain ⟨p1, rfl, hb1⟩ := hp.none; clear hp; have hbk := KC.out w1 hb1; have s1 := hb1.size; simp at s1; have k1 := cells_of_5 hbk.heap; have HB1 := hid hb1; have HBK := hid hbk; clear hb1 hbk))
    go_ret
    rw [HOE.out]
    have hbw0 : Below w.heap.size w (w1.alloc (.cells #[.pointer p1] 41)) := (HB0.out.trans (HB1.out.mono (by simp))).alloc (by omega) _
    have hbw := ((hbw0.mono (show b ≤ w.heap.size by omega)).grown HG.out (by simp; omega) (fun k e => by have := (HKL.out k e).1; omega)).setCell (show b ≤ (⟨b, 4, none⟩ : Addr).block from Nat.le_refl _) (.slice (some ⟨g2, 0, none⟩) (kl + 1) kc2)
    exact ⟨hbw, rfl⟩
  | some m =>
    have HOE := hid (show add7 .e p (some m) st = some ⟨st.nm, st.ty, st.ks ++ [m]⟩ from rfl)
    obtain ⟨O, hOO⟩ : ∃ O, add7 .e p (some m) st = O := ⟨_, rfl⟩
    rw [hOO] at HOE ⊢
    rw [hs] at HA
    clear ih H hOO hb0 hk hs
    go_enter Tryd.func42, Tryd.ntmps42
    go_wp2_with (first | (at_builtin; refine wpList_append_at _ rfl (.tmp 19) (.tmp 21) 67 rfl (b + 1) 41 i0 (.pointer none) 1 8 Tryd.underlying67 hi0 hz0 hz1 hz2 rfl (by decide) (.slice kp kl kc) kl _ rfl ((HBK.out.kids).alloc _) ⟨w1.heap.size, 0, none⟩ 1 1 [.pointer (some ⟨a1, 0, none⟩)] rfl rfl (cells_new1 _ _ _ _ rfl) (by intro u hu; simp at hu; subst hu; rfl) (by decide) (by unfold maxLen; omega) (by omega) (by simp; omega) ?_; intro v' w2 hown2 hg2 hw2 hv2; obtain ⟨g2, kc2, rfl⟩ := hv2; have k2 := cells_of_5 (block_grown (pair_alloc5 HBK.out.heap _) hg2 (fun e => by have := (HKL.out b e).1; omega)); have HG := hid hg2; have HO := hid hown2; have HWW := hid hw2; clear hg2 hown2 hw2) | (go_at_call 31; refine HA.out.mono ?_; rintro e w1 hp; obtain ⟨a1, rfl, hb1, hn1⟩ := hp.some; have HN1 := hid hn1; clear hp hn1; have hbk := KC.out w1 hb1; have s1 := hb1.size; simp at s1; have k1 := cells_of_5 hbk.heap; have HB1 := hid hb1; have HBK := hid hbk; clear hb1 hbk))
    go_ret
    rw [HOE.out]
    have hbw0 : Below w.heap.size w (w1.alloc (.cells #[.pointer (some ⟨a1, 0, none⟩)] 41)) := (HB0.out.trans (HB1.out.mono (by simp))).alloc (by omega) _
    have hbw := ((hbw0.mono (show b ≤ w.heap.size by omega)).grown HG.out (by simp; omega) (fun k e => by have := (HKL.out k e).1; omega)).setCell (show b ≤ (⟨b, 4, none⟩ : Addr).block from Nat.le_refl _) (.slice (some ⟨g2, 0, none⟩) (kl + 1) kc2)
    refine ⟨hbw, rfl, _, _, _, _, _, (HBK.out.under ((Below.refl _ _).alloc (Nat.le_refl _) _)).kid ?_ HO.out HG.out HWW.out⟩
    refine HN1.out.keep (fun k hk hl => heap_alloc_old _ _ hl) (fun k hk hl => ?_)
    simp at hk
    exact ⟨by omega, fun e => by have := (HKL.out k e).2; omega⟩
end Go.Proofs.YtelbkenggonakaaDoor
