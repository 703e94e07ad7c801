/- A term under construction: addType. -/
import Derived.Test.YtfogjomebcponaaDoorBuild
namespace Go.Proofs.YtfogjomebcponaaDoor
open Go.RowKit

/-- The word of a sort. -/
def vS : Bool → ByteArray
  | true => strV
  | false => strC
theorem vc_ne : (strV.toList == strC.toList) = false := by rw [strV_toList, strC_toList]; rfl
theorem cv_ne : (strC.toList == strV.toList) = false := by rw [strV_toList, strC_toList]; rfl

set_option maxRecDepth 100000 in
set_option maxHeartbeats 1000000 in
theorem addType_bit_true {w0 : World} {S : Nat → Prop} {p : Tree} {h : Hd} (ht : TIn w0 S p h) (hwt : p.wt ≤ 12000) (hok : p.ok) (b : Nat) (hd : ByteArray) (st : St) (w : World) (hst : Bld w b hd st) (hk : Kept w0 w) (hw : w0.heap.size ≤ w.heap.size) (hty : tyLim p = some Ty.bit) :
    Calls Tryd.prog 63 #[.pointer (some ⟨b, 0, none⟩), .agg #[.string h.a, .slice h.p h.l h.c], .string strV] w (PartPost (addT true p st) b hd w) := by
  obtain ⟨bp, bl, bc, kp, kl, kc, A, H0⟩ := hst
  have H := hid H0
  have hlt := lt_of_block H0.heap
  have HX := hid (show addT true p st = some { st with ty := some Ty.bit } by rw [addT, hty]; rfl)
  have HL := hid (fun W (hk : Kept w0 W) (hs : w0.heap.size ≤ W.heap.size) => by have := limitedType_any ht hwt hok W hk hs; rw [hty] at this; exact this)
  have HK := hid (hk.alloc hw (.cells #[.string h.a, .slice h.p h.l h.c] 45))
  have mk := m_kind_bit
  have e1 := vc_ne
  have e2 := cv_ne
  clear H0 ht hok hk hty
  obtain ⟨pa, pp, pl, pc⟩ := h
  go_enter Tryd.func63, Tryd.ntmps63
  go_wp2_with (first
    | (go_at_call 23; refine (HL.out _ HK.out (by simp; omega)).mono ?_; rintro e w1 hp; obtain ⟨he1, hb1⟩ := hp.some; simp only [Ty.val] at he1; subst he1; clear hp; have hz1 : w.heap.size ≤ w1.heap.size := (by have := hb1.size; simp at this; omega))
    | (go_at_call 139; refine (kind_bit _).mono ?_; rintro e w2 ⟨rfl, hb2⟩; have hB := hid (((Below.refl w.heap.size w).alloc (Nat.le_refl _) (.cells #[.string pa, .slice pp pl pc] 45)).trans ((hb1.mono (by simp)).trans (hb2.mono hz1))); have k := cells_of_six (H.out.under hB.out).heap))
  go_ret
  rw [HX.out]
  exact ⟨(hB.out.mono (show b ≤ w.heap.size by omega)).setCell (Nat.le_refl _) _, rfl, _, _, _, _, _, _, _, (H.out.under hB.out).typ Ty.bit⟩

set_option maxRecDepth 100000 in
set_option maxHeartbeats 1000000 in
theorem addType_bit_false {w0 : World} {S : Nat → Prop} {p : Tree} {h : Hd} (ht : TIn w0 S p h) (hwt : p.wt ≤ 12000) (hok : p.ok) (b : Nat) (hd : ByteArray) (st : St) (w : World) (hst : Bld w b hd st) (hk : Kept w0 w) (hw : w0.heap.size ≤ w.heap.size) (hty : tyLim p = some Ty.bit) :
    Calls Tryd.prog 63 #[.pointer (some ⟨b, 0, none⟩), .agg #[.string h.a, .slice h.p h.l h.c], .string strC] w (PartPost (addT false p st) b hd w) := by
  obtain ⟨bp, bl, bc, kp, kl, kc, A, H0⟩ := hst
  have H := hid H0
  have hlt := lt_of_block H0.heap
  have HX := hid (show addT false p st = none by rw [addT, hty]; rfl)
  have HL := hid (fun W (hk : Kept w0 W) (hs : w0.heap.size ≤ W.heap.size) => by have := limitedType_any ht hwt hok W hk hs; rw [hty] at this; exact this)
  have HK := hid (hk.alloc hw (.cells #[.string h.a, .slice h.p h.l h.c] 45))
  have mk := m_kind_bit
  have e1 := vc_ne
  have e2 := cv_ne
  clear H0 ht hok hk hty
  obtain ⟨pa, pp, pl, pc⟩ := h
  go_enter Tryd.func63, Tryd.ntmps63
  go_wp2_with (first
    | (go_at_call 23; refine (HL.out _ HK.out (by simp; omega)).mono ?_; rintro e w1 hp; obtain ⟨he1, hb1⟩ := hp.some; simp only [Ty.val] at he1; subst he1; clear hp; have hz1 : w.heap.size ≤ w1.heap.size := (by have := hb1.size; simp at this; omega))
    | (go_at_call 139; refine (kind_bit _).mono ?_; rintro e w2 ⟨rfl, hb2⟩; have hB := hid (((Below.refl w.heap.size w).alloc (Nat.le_refl _) (.cells #[.string pa, .slice pp pl pc] 45)).trans ((hb1.mono (by simp)).trans (hb2.mono hz1))); have k := cells_of_six (H.out.under hB.out).heap))
  go_ret
  rw [HX.out]
  exact ⟨hB.out.mono (by omega), rfl⟩

set_option maxRecDepth 100000 in
set_option maxHeartbeats 1000000 in
theorem addType_pair_true (x y : Ty) {w0 : World} {S : Nat → Prop} {p : Tree} {h : Hd} (ht : TIn w0 S p h) (hwt : p.wt ≤ 12000) (hok : p.ok) (b : Nat) (hd : ByteArray) (st : St) (w : World) (hst : Bld w b hd st) (hk : Kept w0 w) (hw : w0.heap.size ≤ w.heap.size) (hty : tyLim p = some (Ty.pair x y)) :
    Calls Tryd.prog 63 #[.pointer (some ⟨b, 0, none⟩), .agg #[.string h.a, .slice h.p h.l h.c], .string strV] w (PartPost (addT true p st) b hd w) := by
  obtain ⟨bp, bl, bc, kp, kl, kc, A, H0⟩ := hst
  have H := hid H0
  have hlt := lt_of_block H0.heap
  have HX := hid (show addT true p st = some { st with ty := some (Ty.pair x y) } by rw [addT, hty]; rfl)
  have HL := hid (fun W (hk : Kept w0 W) (hs : w0.heap.size ≤ W.heap.size) => by have := limitedType_any ht hwt hok W hk hs; rw [hty] at this; exact this)
  have HK := hid (hk.alloc hw (.cells #[.string h.a, .slice h.p h.l h.c] 45))
  have mk := m_kind_pair x.val y.val
  have e1 := vc_ne
  have e2 := cv_ne
  clear H0 ht hok hk hty
  obtain ⟨pa, pp, pl, pc⟩ := h
  go_enter Tryd.func63, Tryd.ntmps63
  go_wp2_with (first
    | (go_at_call 23; refine (HL.out _ HK.out (by simp; omega)).mono ?_; rintro e w1 hp; obtain ⟨he1, hb1⟩ := hp.some; simp only [Ty.val] at he1; subst he1; clear hp; have hz1 : w.heap.size ≤ w1.heap.size := (by have := hb1.size; simp at this; omega))
    | (go_at_call 118; refine (kind_pair _ _ _).mono ?_; rintro e w2 ⟨rfl, hb2⟩; have hB := hid (((Below.refl w.heap.size w).alloc (Nat.le_refl _) (.cells #[.string pa, .slice pp pl pc] 45)).trans ((hb1.mono (by simp)).trans (hb2.mono hz1))); have k := cells_of_six (H.out.under hB.out).heap))
  go_ret
  rw [HX.out]
  exact ⟨(hB.out.mono (show b ≤ w.heap.size by omega)).setCell (Nat.le_refl _) _, rfl, _, _, _, _, _, _, _, (H.out.under hB.out).typ (Ty.pair x y)⟩

set_option maxRecDepth 100000 in
set_option maxHeartbeats 1000000 in
theorem addType_pair_false (x y : Ty) {w0 : World} {S : Nat → Prop} {p : Tree} {h : Hd} (ht : TIn w0 S p h) (hwt : p.wt ≤ 12000) (hok : p.ok) (b : Nat) (hd : ByteArray) (st : St) (w : World) (hst : Bld w b hd st) (hk : Kept w0 w) (hw : w0.heap.size ≤ w.heap.size) (hty : tyLim p = some (Ty.pair x y)) :
    Calls Tryd.prog 63 #[.pointer (some ⟨b, 0, none⟩), .agg #[.string h.a, .slice h.p h.l h.c], .string strC] w (PartPost (addT false p st) b hd w) := by
  obtain ⟨bp, bl, bc, kp, kl, kc, A, H0⟩ := hst
  have H := hid H0
  have hlt := lt_of_block H0.heap
  have HX := hid (show addT false p st = none by rw [addT, hty]; rfl)
  have HL := hid (fun W (hk : Kept w0 W) (hs : w0.heap.size ≤ W.heap.size) => by have := limitedType_any ht hwt hok W hk hs; rw [hty] at this; exact this)
  have HK := hid (hk.alloc hw (.cells #[.string h.a, .slice h.p h.l h.c] 45))
  have mk := m_kind_pair x.val y.val
  have e1 := vc_ne
  have e2 := cv_ne
  clear H0 ht hok hk hty
  obtain ⟨pa, pp, pl, pc⟩ := h
  go_enter Tryd.func63, Tryd.ntmps63
  go_wp2_with (first
    | (go_at_call 23; refine (HL.out _ HK.out (by simp; omega)).mono ?_; rintro e w1 hp; obtain ⟨he1, hb1⟩ := hp.some; simp only [Ty.val] at he1; subst he1; clear hp; have hz1 : w.heap.size ≤ w1.heap.size := (by have := hb1.size; simp at this; omega))
    | (go_at_call 118; refine (kind_pair _ _ _).mono ?_; rintro e w2 ⟨rfl, hb2⟩; have hB := hid (((Below.refl w.heap.size w).alloc (Nat.le_refl _) (.cells #[.string pa, .slice pp pl pc] 45)).trans ((hb1.mono (by simp)).trans (hb2.mono hz1))); have k := cells_of_six (H.out.under hB.out).heap))
  go_ret
  rw [HX.out]
  exact ⟨hB.out.mono (by omega), rfl⟩

set_option maxRecDepth 100000 in
set_option maxHeartbeats 1000000 in
theorem addType_thunk_true (x : Ty) {w0 : World} {S : Nat → Prop} {p : Tree} {h : Hd} (ht : TIn w0 S p h) (hwt : p.wt ≤ 12000) (hok : p.ok) (b : Nat) (hd : ByteArray) (st : St) (w : World) (hst : Bld w b hd st) (hk : Kept w0 w) (hw : w0.heap.size ≤ w.heap.size) (hty : tyLim p = some (Ty.thunk x)) :
    Calls Tryd.prog 63 #[.pointer (some ⟨b, 0, none⟩), .agg #[.string h.a, .slice h.p h.l h.c], .string strV] w (PartPost (addT true p st) b hd w) := by
  obtain ⟨bp, bl, bc, kp, kl, kc, A, H0⟩ := hst
  have H := hid H0
  have hlt := lt_of_block H0.heap
  have HX := hid (show addT true p st = some { st with ty := some (Ty.thunk x) } by rw [addT, hty]; rfl)
  have HL := hid (fun W (hk : Kept w0 W) (hs : w0.heap.size ≤ W.heap.size) => by have := limitedType_any ht hwt hok W hk hs; rw [hty] at this; exact this)
  have HK := hid (hk.alloc hw (.cells #[.string h.a, .slice h.p h.l h.c] 45))
  have mk := m_kind_thunk x.val
  have e1 := vc_ne
  have e2 := cv_ne
  clear H0 ht hok hk hty
  obtain ⟨pa, pp, pl, pc⟩ := h
  go_enter Tryd.func63, Tryd.ntmps63
  go_wp2_with (first
    | (go_at_call 23; refine (HL.out _ HK.out (by simp; omega)).mono ?_; rintro e w1 hp; obtain ⟨he1, hb1⟩ := hp.some; simp only [Ty.val] at he1; subst he1; clear hp; have hz1 : w.heap.size ≤ w1.heap.size := (by have := hb1.size; simp at this; omega))
    | (go_at_call 122; refine (kind_thunk _ _).mono ?_; rintro e w2 ⟨rfl, hb2⟩; have hB := hid (((Below.refl w.heap.size w).alloc (Nat.le_refl _) (.cells #[.string pa, .slice pp pl pc] 45)).trans ((hb1.mono (by simp)).trans (hb2.mono hz1))); have k := cells_of_six (H.out.under hB.out).heap))
  go_ret
  rw [HX.out]
  exact ⟨(hB.out.mono (show b ≤ w.heap.size by omega)).setCell (Nat.le_refl _) _, rfl, _, _, _, _, _, _, _, (H.out.under hB.out).typ (Ty.thunk x)⟩

set_option maxRecDepth 100000 in
set_option maxHeartbeats 1000000 in
theorem addType_thunk_false (x : Ty) {w0 : World} {S : Nat → Prop} {p : Tree} {h : Hd} (ht : TIn w0 S p h) (hwt : p.wt ≤ 12000) (hok : p.ok) (b : Nat) (hd : ByteArray) (st : St) (w : World) (hst : Bld w b hd st) (hk : Kept w0 w) (hw : w0.heap.size ≤ w.heap.size) (hty : tyLim p = some (Ty.thunk x)) :
    Calls Tryd.prog 63 #[.pointer (some ⟨b, 0, none⟩), .agg #[.string h.a, .slice h.p h.l h.c], .string strC] w (PartPost (addT false p st) b hd w) := by
  obtain ⟨bp, bl, bc, kp, kl, kc, A, H0⟩ := hst
  have H := hid H0
  have hlt := lt_of_block H0.heap
  have HX := hid (show addT false p st = none by rw [addT, hty]; rfl)
  have HL := hid (fun W (hk : Kept w0 W) (hs : w0.heap.size ≤ W.heap.size) => by have := limitedType_any ht hwt hok W hk hs; rw [hty] at this; exact this)
  have HK := hid (hk.alloc hw (.cells #[.string h.a, .slice h.p h.l h.c] 45))
  have mk := m_kind_thunk x.val
  have e1 := vc_ne
  have e2 := cv_ne
  clear H0 ht hok hk hty
  obtain ⟨pa, pp, pl, pc⟩ := h
  go_enter Tryd.func63, Tryd.ntmps63
  go_wp2_with (first
    | (go_at_call 23; refine (HL.out _ HK.out (by simp; omega)).mono ?_; rintro e w1 hp; obtain ⟨he1, hb1⟩ := hp.some; simp only [Ty.val] at he1; subst he1; clear hp; have hz1 : w.heap.size ≤ w1.heap.size := (by have := hb1.size; simp at this; omega))
    | (go_at_call 122; refine (kind_thunk _ _).mono ?_; rintro e w2 ⟨rfl, hb2⟩; have hB := hid (((Below.refl w.heap.size w).alloc (Nat.le_refl _) (.cells #[.string pa, .slice pp pl pc] 45)).trans ((hb1.mono (by simp)).trans (hb2.mono hz1))); have k := cells_of_six (H.out.under hB.out).heap))
  go_ret
  rw [HX.out]
  exact ⟨hB.out.mono (by omega), rfl⟩

set_option maxRecDepth 100000 in
set_option maxHeartbeats 1000000 in
theorem addType_ret_true (x : Ty) {w0 : World} {S : Nat → Prop} {p : Tree} {h : Hd} (ht : TIn w0 S p h) (hwt : p.wt ≤ 12000) (hok : p.ok) (b : Nat) (hd : ByteArray) (st : St) (w : World) (hst : Bld w b hd st) (hk : Kept w0 w) (hw : w0.heap.size ≤ w.heap.size) (hty : tyLim p = some (Ty.ret x)) :
    Calls Tryd.prog 63 #[.pointer (some ⟨b, 0, none⟩), .agg #[.string h.a, .slice h.p h.l h.c], .string strV] w (PartPost (addT true p st) b hd w) := by
  obtain ⟨bp, bl, bc, kp, kl, kc, A, H0⟩ := hst
  have H := hid H0
  have hlt := lt_of_block H0.heap
  have HX := hid (show addT true p st = none by rw [addT, hty]; rfl)
  have HL := hid (fun W (hk : Kept w0 W) (hs : w0.heap.size ≤ W.heap.size) => by have := limitedType_any ht hwt hok W hk hs; rw [hty] at this; exact this)
  have HK := hid (hk.alloc hw (.cells #[.string h.a, .slice h.p h.l h.c] 45))
  have mk := m_kind_ret x.val
  have e1 := vc_ne
  have e2 := cv_ne
  clear H0 ht hok hk hty
  obtain ⟨pa, pp, pl, pc⟩ := h
  go_enter Tryd.func63, Tryd.ntmps63
  go_wp2_with (first
    | (go_at_call 23; refine (HL.out _ HK.out (by simp; omega)).mono ?_; rintro e w1 hp; obtain ⟨he1, hb1⟩ := hp.some; simp only [Ty.val] at he1; subst he1; clear hp; have hz1 : w.heap.size ≤ w1.heap.size := (by have := hb1.size; simp at this; omega))
    | (go_at_call 126; refine (kind_ret _ _).mono ?_; rintro e w2 ⟨rfl, hb2⟩; have hB := hid (((Below.refl w.heap.size w).alloc (Nat.le_refl _) (.cells #[.string pa, .slice pp pl pc] 45)).trans ((hb1.mono (by simp)).trans (hb2.mono hz1))); have k := cells_of_six (H.out.under hB.out).heap))
  go_ret
  rw [HX.out]
  exact ⟨hB.out.mono (by omega), rfl⟩

set_option maxRecDepth 100000 in
set_option maxHeartbeats 1000000 in
theorem addType_ret_false (x : Ty) {w0 : World} {S : Nat → Prop} {p : Tree} {h : Hd} (ht : TIn w0 S p h) (hwt : p.wt ≤ 12000) (hok : p.ok) (b : Nat) (hd : ByteArray) (st : St) (w : World) (hst : Bld w b hd st) (hk : Kept w0 w) (hw : w0.heap.size ≤ w.heap.size) (hty : tyLim p = some (Ty.ret x)) :
    Calls Tryd.prog 63 #[.pointer (some ⟨b, 0, none⟩), .agg #[.string h.a, .slice h.p h.l h.c], .string strC] w (PartPost (addT false p st) b hd w) := by
  obtain ⟨bp, bl, bc, kp, kl, kc, A, H0⟩ := hst
  have H := hid H0
  have hlt := lt_of_block H0.heap
  have HX := hid (show addT false p st = some { st with ty := some (Ty.ret x) } by rw [addT, hty]; rfl)
  have HL := hid (fun W (hk : Kept w0 W) (hs : w0.heap.size ≤ W.heap.size) => by have := limitedType_any ht hwt hok W hk hs; rw [hty] at this; exact this)
  have HK := hid (hk.alloc hw (.cells #[.string h.a, .slice h.p h.l h.c] 45))
  have mk := m_kind_ret x.val
  have e1 := vc_ne
  have e2 := cv_ne
  clear H0 ht hok hk hty
  obtain ⟨pa, pp, pl, pc⟩ := h
  go_enter Tryd.func63, Tryd.ntmps63
  go_wp2_with (first
    | (go_at_call 23; refine (HL.out _ HK.out (by simp; omega)).mono ?_; rintro e w1 hp; obtain ⟨he1, hb1⟩ := hp.some; simp only [Ty.val] at he1; subst he1; clear hp; have hz1 : w.heap.size ≤ w1.heap.size := (by have := hb1.size; simp at this; omega))
    | (go_at_call 126; refine (kind_ret _ _).mono ?_; rintro e w2 ⟨rfl, hb2⟩; have hB := hid (((Below.refl w.heap.size w).alloc (Nat.le_refl _) (.cells #[.string pa, .slice pp pl pc] 45)).trans ((hb1.mono (by simp)).trans (hb2.mono hz1))); have k := cells_of_six (H.out.under hB.out).heap))
  go_ret
  rw [HX.out]
  exact ⟨(hB.out.mono (show b ≤ w.heap.size by omega)).setCell (Nat.le_refl _) _, rfl, _, _, _, _, _, _, _, (H.out.under hB.out).typ (Ty.ret x)⟩

set_option maxRecDepth 100000 in
set_option maxHeartbeats 1000000 in
theorem addType_fn_true (x y : Ty) {w0 : World} {S : Nat → Prop} {p : Tree} {h : Hd} (ht : TIn w0 S p h) (hwt : p.wt ≤ 12000) (hok : p.ok) (b : Nat) (hd : ByteArray) (st : St) (w : World) (hst : Bld w b hd st) (hk : Kept w0 w) (hw : w0.heap.size ≤ w.heap.size) (hty : tyLim p = some (Ty.fn x y)) :
    Calls Tryd.prog 63 #[.pointer (some ⟨b, 0, none⟩), .agg #[.string h.a, .slice h.p h.l h.c], .string strV] w (PartPost (addT true p st) b hd w) := by
  obtain ⟨bp, bl, bc, kp, kl, kc, A, H0⟩ := hst
  have H := hid H0
  have hlt := lt_of_block H0.heap
  have HX := hid (show addT true p st = none by rw [addT, hty]; rfl)
  have HL := hid (fun W (hk : Kept w0 W) (hs : w0.heap.size ≤ W.heap.size) => by have := limitedType_any ht hwt hok W hk hs; rw [hty] at this; exact this)
  have HK := hid (hk.alloc hw (.cells #[.string h.a, .slice h.p h.l h.c] 45))
  have mk := m_kind_fn x.val y.val
  have e1 := vc_ne
  have e2 := cv_ne
  clear H0 ht hok hk hty
  obtain ⟨pa, pp, pl, pc⟩ := h
  go_enter Tryd.func63, Tryd.ntmps63
  go_wp2_with (first
    | (go_at_call 23; refine (HL.out _ HK.out (by simp; omega)).mono ?_; rintro e w1 hp; obtain ⟨he1, hb1⟩ := hp.some; simp only [Ty.val] at he1; subst he1; clear hp; have hz1 : w.heap.size ≤ w1.heap.size := (by have := hb1.size; simp at this; omega))
    | (go_at_call 130; refine (kind_fn _ _ _).mono ?_; rintro e w2 ⟨rfl, hb2⟩; have hB := hid (((Below.refl w.heap.size w).alloc (Nat.le_refl _) (.cells #[.string pa, .slice pp pl pc] 45)).trans ((hb1.mono (by simp)).trans (hb2.mono hz1))); have k := cells_of_six (H.out.under hB.out).heap))
  go_ret
  rw [HX.out]
  exact ⟨hB.out.mono (by omega), rfl⟩

set_option maxRecDepth 100000 in
set_option maxHeartbeats 1000000 in
theorem addType_fn_false (x y : Ty) {w0 : World} {S : Nat → Prop} {p : Tree} {h : Hd} (ht : TIn w0 S p h) (hwt : p.wt ≤ 12000) (hok : p.ok) (b : Nat) (hd : ByteArray) (st : St) (w : World) (hst : Bld w b hd st) (hk : Kept w0 w) (hw : w0.heap.size ≤ w.heap.size) (hty : tyLim p = some (Ty.fn x y)) :
    Calls Tryd.prog 63 #[.pointer (some ⟨b, 0, none⟩), .agg #[.string h.a, .slice h.p h.l h.c], .string strC] w (PartPost (addT false p st) b hd w) := by
  obtain ⟨bp, bl, bc, kp, kl, kc, A, H0⟩ := hst
  have H := hid H0
  have hlt := lt_of_block H0.heap
  have HX := hid (show addT false p st = some { st with ty := some (Ty.fn x y) } by rw [addT, hty]; rfl)
  have HL := hid (fun W (hk : Kept w0 W) (hs : w0.heap.size ≤ W.heap.size) => by have := limitedType_any ht hwt hok W hk hs; rw [hty] at this; exact this)
  have HK := hid (hk.alloc hw (.cells #[.string h.a, .slice h.p h.l h.c] 45))
  have mk := m_kind_fn x.val y.val
  have e1 := vc_ne
  have e2 := cv_ne
  clear H0 ht hok hk hty
  obtain ⟨pa, pp, pl, pc⟩ := h
  go_enter Tryd.func63, Tryd.ntmps63
  go_wp2_with (first
    | (go_at_call 23; refine (HL.out _ HK.out (by simp; omega)).mono ?_; rintro e w1 hp; obtain ⟨he1, hb1⟩ := hp.some; simp only [Ty.val] at he1; subst he1; clear hp; have hz1 : w.heap.size ≤ w1.heap.size := (by have := hb1.size; simp at this; omega))
    | (go_at_call 130; refine (kind_fn _ _ _).mono ?_; rintro e w2 ⟨rfl, hb2⟩; have hB := hid (((Below.refl w.heap.size w).alloc (Nat.le_refl _) (.cells #[.string pa, .slice pp pl pc] 45)).trans ((hb1.mono (by simp)).trans (hb2.mono hz1))); have k := cells_of_six (H.out.under hB.out).heap))
  go_ret
  rw [HX.out]
  exact ⟨(hB.out.mono (show b ≤ w.heap.size by omega)).setCell (Nat.le_refl _) _, rfl, _, _, _, _, _, _, _, (H.out.under hB.out).typ (Ty.fn x y)⟩

set_option maxRecDepth 100000 in
set_option maxHeartbeats 1000000 in
theorem addType_choice_true (x y : Ty) {w0 : World} {S : Nat → Prop} {p : Tree} {h : Hd} (ht : TIn w0 S p h) (hwt : p.wt ≤ 12000) (hok : p.ok) (b : Nat) (hd : ByteArray) (st : St) (w : World) (hst : Bld w b hd st) (hk : Kept w0 w) (hw : w0.heap.size ≤ w.heap.size) (hty : tyLim p = some (Ty.choice x y)) :
    Calls Tryd.prog 63 #[.pointer (some ⟨b, 0, none⟩), .agg #[.string h.a, .slice h.p h.l h.c], .string strV] w (PartPost (addT true p st) b hd w) := by
  obtain ⟨bp, bl, bc, kp, kl, kc, A, H0⟩ := hst
  have H := hid H0
  have hlt := lt_of_block H0.heap
  have HX := hid (show addT true p st = none by rw [addT, hty]; rfl)
  have HL := hid (fun W (hk : Kept w0 W) (hs : w0.heap.size ≤ W.heap.size) => by have := limitedType_any ht hwt hok W hk hs; rw [hty] at this; exact this)
  have HK := hid (hk.alloc hw (.cells #[.string h.a, .slice h.p h.l h.c] 45))
  have mk := m_kind_choice x.val y.val
  have e1 := vc_ne
  have e2 := cv_ne
  clear H0 ht hok hk hty
  obtain ⟨pa, pp, pl, pc⟩ := h
  go_enter Tryd.func63, Tryd.ntmps63
  go_wp2_with (first
    | (go_at_call 23; refine (HL.out _ HK.out (by simp; omega)).mono ?_; rintro e w1 hp; obtain ⟨he1, hb1⟩ := hp.some; simp only [Ty.val] at he1; subst he1; clear hp; have hz1 : w.heap.size ≤ w1.heap.size := (by have := hb1.size; simp at this; omega))
    | (go_at_call 134; refine (kind_choice _ _ _).mono ?_; rintro e w2 ⟨rfl, hb2⟩; have hB := hid (((Below.refl w.heap.size w).alloc (Nat.le_refl _) (.cells #[.string pa, .slice pp pl pc] 45)).trans ((hb1.mono (by simp)).trans (hb2.mono hz1))); have k := cells_of_six (H.out.under hB.out).heap))
  go_ret
  rw [HX.out]
  exact ⟨hB.out.mono (by omega), rfl⟩

set_option maxRecDepth 100000 in
set_option maxHeartbeats 1000000 in
theorem addType_choice_false (x y : Ty) {w0 : World} {S : Nat → Prop} {p : Tree} {h : Hd} (ht : TIn w0 S p h) (hwt : p.wt ≤ 12000) (hok : p.ok) (b : Nat) (hd : ByteArray) (st : St) (w : World) (hst : Bld w b hd st) (hk : Kept w0 w) (hw : w0.heap.size ≤ w.heap.size) (hty : tyLim p = some (Ty.choice x y)) :
    Calls Tryd.prog 63 #[.pointer (some ⟨b, 0, none⟩), .agg #[.string h.a, .slice h.p h.l h.c], .string strC] w (PartPost (addT false p st) b hd w) := by
  obtain ⟨bp, bl, bc, kp, kl, kc, A, H0⟩ := hst
  have H := hid H0
  have hlt := lt_of_block H0.heap
  have HX := hid (show addT false p st = some { st with ty := some (Ty.choice x y) } by rw [addT, hty]; rfl)
  have HL := hid (fun W (hk : Kept w0 W) (hs : w0.heap.size ≤ W.heap.size) => by have := limitedType_any ht hwt hok W hk hs; rw [hty] at this; exact this)
  have HK := hid (hk.alloc hw (.cells #[.string h.a, .slice h.p h.l h.c] 45))
  have mk := m_kind_choice x.val y.val
  have e1 := vc_ne
  have e2 := cv_ne
  clear H0 ht hok hk hty
  obtain ⟨pa, pp, pl, pc⟩ := h
  go_enter Tryd.func63, Tryd.ntmps63
  go_wp2_with (first
    | (go_at_call 23; refine (HL.out _ HK.out (by simp; omega)).mono ?_; rintro e w1 hp; obtain ⟨he1, hb1⟩ := hp.some; simp only [Ty.val] at he1; subst he1; clear hp; have hz1 : w.heap.size ≤ w1.heap.size := (by have := hb1.size; simp at this; omega))
    | (go_at_call 134; refine (kind_choice _ _ _).mono ?_; rintro e w2 ⟨rfl, hb2⟩; have hB := hid (((Below.refl w.heap.size w).alloc (Nat.le_refl _) (.cells #[.string pa, .slice pp pl pc] 45)).trans ((hb1.mono (by simp)).trans (hb2.mono hz1))); have k := cells_of_six (H.out.under hB.out).heap))
  go_ret
  rw [HX.out]
  exact ⟨(hB.out.mono (show b ≤ w.heap.size by omega)).setCell (Nat.le_refl _) _, rfl, _, _, _, _, _, _, _, (H.out.under hB.out).typ (Ty.choice x y)⟩

set_option maxRecDepth 100000 in
set_option maxHeartbeats 1000000 in
theorem addType_none {w0 : World} {S : Nat → Prop} {p : Tree} {h : Hd} (ht : TIn w0 S p h) (hwt : p.wt ≤ 12000) (hok : p.ok) (v : Bool) (kS : ByteArray) (b : Nat) (hd : ByteArray) (st : St) (w : World) (hb : b ≤ w.heap.size) (hk : Kept w0 w) (hw : w0.heap.size ≤ w.heap.size) (hty : tyLim p = none) :
    Calls Tryd.prog 63 #[.pointer (some ⟨b, 0, none⟩), .agg #[.string h.a, .slice h.p h.l h.c], .string kS] w (PartPost (addT v p st) b hd w) := by
  have HX := hid (show addT v p st = none by rw [addT, hty])
  have HL := hid (fun W (hk : Kept w0 W) (hs : w0.heap.size ≤ W.heap.size) => by have := limitedType_any ht hwt hok W hk hs; rw [hty] at this; exact this)
  have HK := hid (hk.alloc hw (.cells #[.string h.a, .slice h.p h.l h.c] 45))
  clear ht hok hk hty
  obtain ⟨pa, pp, pl, pc⟩ := h
  go_enter Tryd.func63, Tryd.ntmps63
  go_wp2_with (go_at_call 23; refine (HL.out _ HK.out (by simp; omega)).mono ?_; rintro e w1 hp; obtain ⟨rfl, hb1⟩ := hp.none; clear hp)
  go_ret
  rw [HX.out]
  exact ⟨((Below.refl w.heap.size w).alloc (Nat.le_refl _) _).trans (hb1.mono (by simp)) |>.mono hb, rfl⟩
/-- THE PROGRAM's addType. -/
theorem addType_any {w0 : World} {S : Nat → Prop} {p : Tree} {h : Hd} (ht : TIn w0 S p h) (hwt : p.wt ≤ 12000) (hok : p.ok) (v : Bool) (b : Nat) (hd : ByteArray) (st : St) (w : World) (hst : Bld w b hd st) (hk : Kept w0 w) (hw : w0.heap.size ≤ w.heap.size) :
    Calls Tryd.prog 63 #[.pointer (some ⟨b, 0, none⟩), .agg #[.string h.a, .slice h.p h.l h.c], .string (vS v)] w (PartPost (addT v p st) b hd w) := by
  have hlt : b < w.heap.size := by obtain ⟨bp, bl, bc, kp, kl, kc, A, H0⟩ := hst; exact lt_of_block H0.heap
  cases hty : tyLim p with
  | none => exact addType_none ht hwt hok v (vS v) b hd st w (by omega) hk hw hty
  | some t =>
    cases v with
    | true =>
      cases t with
      | bit => exact addType_bit_true ht hwt hok b hd st w hst hk hw hty
      | pair x y => exact addType_pair_true x y ht hwt hok b hd st w hst hk hw hty
      | thunk x => exact addType_thunk_true x ht hwt hok b hd st w hst hk hw hty
      | ret x => exact addType_ret_true x ht hwt hok b hd st w hst hk hw hty
      | fn x y => exact addType_fn_true x y ht hwt hok b hd st w hst hk hw hty
      | choice x y => exact addType_choice_true x y ht hwt hok b hd st w hst hk hw hty
    | false =>
      cases t with
      | bit => exact addType_bit_false ht hwt hok b hd st w hst hk hw hty
      | pair x y => exact addType_pair_false x y ht hwt hok b hd st w hst hk hw hty
      | thunk x => exact addType_thunk_false x ht hwt hok b hd st w hst hk hw hty
      | ret x => exact addType_ret_false x ht hwt hok b hd st w hst hk hw hty
      | fn x y => exact addType_fn_false x y ht hwt hok b hd st w hst hk hw hty
      | choice x y => exact addType_choice_false x y ht hwt hok b hd st w hst hk hw hty
end Go.Proofs.YtfogjomebcponaaDoor
