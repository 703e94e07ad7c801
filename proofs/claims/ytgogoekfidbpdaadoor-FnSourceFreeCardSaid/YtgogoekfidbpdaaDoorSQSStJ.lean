/- Merged: StJ. -/
import Derived.Deep.RegionHeld3
import Derived.Test.YtgogoekfidbpdaaDoorSQ19
namespace Go.Proofs.YtgogoekfidbpdaaDoor
open Go.RowKit

theorem SIn.cells {w : World} {S : Nat → Prop} {s : STy} {a : Nat} (h : SIn w S s a) : ∃ hd p q, w.cell? ⟨a, 0, none⟩ = some (.string hd) ∧ w.cell? ⟨a, 1, none⟩ = some (.pointer p) ∧ w.cell? ⟨a, 2, none⟩ = some (.pointer q) ∧ match s with
    | .bit => hd.toList = [98]
    | .fn x y => hd.toList = [62] ∧ ∃ c d, p = some ⟨c, 0, none⟩ ∧ q = some ⟨d, 0, none⟩ ∧ SIn w S x c ∧ SIn w S y d
    | .pair x y => hd.toList = [42] ∧ ∃ c d, p = some ⟨c, 0, none⟩ ∧ q = some ⟨d, 0, none⟩ ∧ SIn w S x c ∧ SIn w S y d := by
  cases h with
  | bit hd hh b hS hb => have c := cells_of_3 hb; exact ⟨hd, none, none, c.1, c.2.1, c.2.2, hh⟩
  | fn hd hh x y b c d hS hb hx hy => have k := cells_of_3 hb; exact ⟨hd, _, _, k.1, k.2.1, k.2.2, hh, c, d, rfl, rfl, hx, hy⟩
  | pair hd hh x y b c d hS hb hx hy => have k := cells_of_3 hb; exact ⟨hd, _, _, k.1, k.2.1, k.2.2, hh, c, d, rfl, rfl, hx, hy⟩
theorem SIn.drewN {w : World} {S : Nat → Prop} {s : STy} {a : Nat} (h : SIn w S s a) (k : Nat) : SIn (w.drewN k) S s a := h.keep (fun _ _ _ => rfl) (fun _ h _ => h)
theorem SIn.drew {w : World} {S : Nat → Prop} {s : STy} {a : Nat} (h : SIn w S s a) : SIn w.drew S s a := h.keep (fun _ _ _ => rfl) (fun _ h _ => h)
/-- A new node over two. -/
theorem tnode {w : World} {x y : STy} {c d : Nat} (hx : SIn w (fun _ => True) x c) (hy : SIn w (fun _ => True) y d) (hd : ByteArray) (t : TypeId) (ht : t = 78) :
    (hd.toList = [62] → SIn (w.alloc (.cells #[.string hd, .pointer (some ⟨c, 0, none⟩), .pointer (some ⟨d, 0, none⟩)] t)) (fun _ => True) (.fn x y) w.heap.size) ∧
    (hd.toList = [42] → SIn (w.alloc (.cells #[.string hd, .pointer (some ⟨c, 0, none⟩), .pointer (some ⟨d, 0, none⟩)] t)) (fun _ => True) (.pair x y) w.heap.size) := by
  subst ht
  have hk : Kept w (w.alloc (.cells #[.string hd, .pointer (some ⟨c, 0, none⟩), .pointer (some ⟨d, 0, none⟩)] 78)) := (Kept.refl w).alloc (Nat.le_refl _) _
  exact ⟨fun h => .fn hd h x y _ c d trivial (heap_alloc_new _ _) (hx.kept hk) (hy.kept hk), fun h => .pair hd h x y _ c d trivial (heap_alloc_new _ _) (hx.kept hk) (hy.kept hk)⟩
def tfFst : STy → Option STy
  | .pair x _ => some x
  | _ => none
def tfSnd : STy → Option STy
  | .pair _ y => some y
  | _ => none
def tfPut : STy → Option STy
  | .bit => some .bit
  | _ => none
def tfApp : STy → STy → Option STy
  | .fn x y, u => if eqT x u then some y else none
  | _, _ => none
def tfIf : STy → STy → STy → Option STy
  | .bit, u, v => if eqT u v then some u else none
  | _, _, _ => none

set_option maxRecDepth 100000 in
set_option maxHeartbeats 4000000 in
theorem tf_name {w : World} {b : Nat} {hd : ByteArray} (hhd : hd.toList = [110, 97, 109, 101]) (k0 : w.cell? ⟨b, 0, none⟩ = some (.string hd)) {a : ByteArray} {env : List (ByteArray × STy)} {q pp : Option Addr} {n c : Nat} (k1 : w.cell? ⟨b, 1, none⟩ = some (.string a)) (he : EIn w env q) :
    Calls Tryd.prog 54 #[.pointer (some ⟨b, 0, none⟩), .slice pp n c, .pointer q] w (T7Post (tLook env a.toList) w) := by
  have t0 : (hd.toList == [110, 97, 109, 101]) = true := by rw [hhd]; rfl
  have HL := hid (fun W h => look_any env q a W h)
  have HE := hid he
  obtain ⟨R, hR⟩ : ∃ R, tLook env a.toList = R := ⟨_, rfl⟩
  rw [hR] at HL ⊢
  clear he hR hhd
  cases R with
  | none =>
    go_enter Tryd.func54, Tryd.ntmps54
    go_wp2_with (go_at_call 62; refine (HL.out _ HE.out).mono ?_; rintro e w1 hp; obtain ⟨p1, rfl, hb1⟩ := hp.none; clear hp)
    go_ret2
    exact t7_none hb1
  | some s =>
    go_enter Tryd.func54, Tryd.ntmps54
    go_wp2_with (go_at_call 62; refine (HL.out _ HE.out).mono ?_; rintro e w1 hp; obtain ⟨a1, rfl, hb1, hn1⟩ := hp.some; have HN1 := hid hn1; clear hp hn1)
    go_ret2
    exact t7_some hb1 HN1.out

set_option maxRecDepth 100000 in
set_option maxHeartbeats 4000000 in
theorem tf_bit {w : World} {b : Nat} {hd : ByteArray} (hhd : hd.toList = [98, 105, 116]) (k0 : w.cell? ⟨b, 0, none⟩ = some (.string hd)) {q pp : Option Addr} {n c : Nat} :
    Calls Tryd.prog 54 #[.pointer (some ⟨b, 0, none⟩), .slice pp n c, .pointer q] w (T7Post (some .bit) w) := by
  have t0 : (hd.toList == [110, 97, 109, 101]) = false := by rw [hhd]; rfl
  have t1 : (hd.toList == [108, 97, 109]) = false := by rw [hhd]; rfl
  have t2 : (hd.toList == [97, 112, 112]) = false := by rw [hhd]; rfl
  have t3 : (hd.toList == [105, 102]) = false := by rw [hhd]; rfl
  have t4 : (hd.toList == [112, 97, 105, 114]) = false := by rw [hhd]; rfl
  have t5 : (hd.toList == [102, 115, 116]) = false := by rw [hhd]; rfl
  have t6 : (hd.toList == [115, 110, 100]) = false := by rw [hhd]; rfl
  have t7 : (hd.toList == [112, 117, 116]) = false := by rw [hhd]; rfl
  have t8 : (hd.toList == [102, 97, 105, 108]) = false := by rw [hhd]; rfl
  clear hhd
  go_enter Tryd.func54, Tryd.ntmps54
  go_wp2
  go_ret2
  exact t7_some ((Below.refl _ _).alloc (Nat.le_refl _) _) (.bit ({ data := #[98] } : ByteArray) (by rw [Go.ByteArray.toList_eq]) w.heap.size trivial (heap_alloc_new _ _))

set_option maxRecDepth 100000 in
set_option maxHeartbeats 4000000 in
theorem tf_get {w : World} {b : Nat} {hd : ByteArray} (hhd : hd.toList = [103, 101, 116]) (k0 : w.cell? ⟨b, 0, none⟩ = some (.string hd)) {q pp : Option Addr} {n c : Nat} :
    Calls Tryd.prog 54 #[.pointer (some ⟨b, 0, none⟩), .slice pp n c, .pointer q] w (T7Post (some .bit) w) := by
  have t0 : (hd.toList == [110, 97, 109, 101]) = false := by rw [hhd]; rfl
  have t1 : (hd.toList == [108, 97, 109]) = false := by rw [hhd]; rfl
  have t2 : (hd.toList == [97, 112, 112]) = false := by rw [hhd]; rfl
  have t3 : (hd.toList == [105, 102]) = false := by rw [hhd]; rfl
  have t4 : (hd.toList == [112, 97, 105, 114]) = false := by rw [hhd]; rfl
  have t5 : (hd.toList == [102, 115, 116]) = false := by rw [hhd]; rfl
  have t6 : (hd.toList == [115, 110, 100]) = false := by rw [hhd]; rfl
  have t7 : (hd.toList == [112, 117, 116]) = false := by rw [hhd]; rfl
  have t8 : (hd.toList == [102, 97, 105, 108]) = false := by rw [hhd]; rfl
  clear hhd
  go_enter Tryd.func54, Tryd.ntmps54
  go_wp2
  go_ret2
  exact t7_some ((Below.refl _ _).alloc (Nat.le_refl _) _) (.bit ({ data := #[98] } : ByteArray) (by rw [Go.ByteArray.toList_eq]) w.heap.size trivial (heap_alloc_new _ _))

set_option maxRecDepth 100000 in
set_option maxHeartbeats 4000000 in
theorem tf_fail {w : World} {b : Nat} {hd : ByteArray} (hhd : hd.toList = [102, 97, 105, 108]) (k0 : w.cell? ⟨b, 0, none⟩ = some (.string hd)) {s : STy} {a : Nat} {q pp : Option Addr} {n c : Nat} (k3 : w.cell? ⟨b, 3, none⟩ = some (.pointer (some ⟨a, 0, none⟩))) (hs : SIn w (fun _ => True) s a) :
    Calls Tryd.prog 54 #[.pointer (some ⟨b, 0, none⟩), .slice pp n c, .pointer q] w (T7Post (some s) w) := by
  have t0 : (hd.toList == [110, 97, 109, 101]) = false := by rw [hhd]; rfl
  have t1 : (hd.toList == [108, 97, 109]) = false := by rw [hhd]; rfl
  have t2 : (hd.toList == [97, 112, 112]) = false := by rw [hhd]; rfl
  have t3 : (hd.toList == [105, 102]) = false := by rw [hhd]; rfl
  have t4 : (hd.toList == [112, 97, 105, 114]) = false := by rw [hhd]; rfl
  have t5 : (hd.toList == [102, 115, 116]) = false := by rw [hhd]; rfl
  have t6 : (hd.toList == [115, 110, 100]) = false := by rw [hhd]; rfl
  have t7 : (hd.toList == [112, 117, 116]) = false := by rw [hhd]; rfl
  have t8 : (hd.toList == [102, 97, 105, 108]) = true := by rw [hhd]; rfl
  have HS := hid hs
  clear hs hhd
  go_enter Tryd.func54, Tryd.ntmps54
  go_wp2
  go_ret2
  exact t7_some (Below.refl _ _) HS.out

set_option maxRecDepth 100000 in
set_option maxHeartbeats 4000000 in
theorem tf_lam {w : World} {b : Nat} {hd : ByteArray} (hhd : hd.toList = [108, 97, 109]) (k0 : w.cell? ⟨b, 0, none⟩ = some (.string hd)) {s t : STy} {a d g c : Nat} {q : Option Addr} (k3 : w.cell? ⟨b, 3, none⟩ = some (.pointer (some ⟨a, 0, none⟩))) (hs : SIn w (fun _ => True) s a) (g0 : w.cell? ⟨g, 0, none⟩ = some (.pointer (some ⟨d, 0, none⟩))) (ht : SIn w (fun _ => True) t d) :
    Calls Tryd.prog 54 #[.pointer (some ⟨b, 0, none⟩), .slice (some ⟨g, 0, none⟩) 1 c, .pointer q] w (T7Post (some (.fn s t)) w) := by
  have t0 : (hd.toList == [110, 97, 109, 101]) = false := by rw [hhd]; rfl
  have t1 : (hd.toList == [108, 97, 109]) = true := by rw [hhd]; rfl
  have HS := hid hs
  have HT := hid ht
  clear hs ht hhd
  go_enter Tryd.func54, Tryd.ntmps54
  go_wp2_with fail
  go_region
  all_goals
    go_wp2_with fail
    go_ret2
    exact t7_some (((Below.refl w.heap.size w).drew).alloc (Nat.le_refl _) _) ((tnode HS.out.drew HT.out.drew _ _ rfl).1 (by rw [Go.ByteArray.toList_eq]))

set_option maxRecDepth 100000 in
set_option maxHeartbeats 4000000 in
theorem tf_pair {w : World} {b : Nat} {hd : ByteArray} (hhd : hd.toList = [112, 97, 105, 114]) (k0 : w.cell? ⟨b, 0, none⟩ = some (.string hd)) {s t : STy} {a d g c : Nat} {q : Option Addr} (g0 : w.cell? ⟨g, 0, none⟩ = some (.pointer (some ⟨a, 0, none⟩))) (hs : SIn w (fun _ => True) s a) (g1 : w.cell? ⟨g, 1, none⟩ = some (.pointer (some ⟨d, 0, none⟩))) (ht : SIn w (fun _ => True) t d) :
    Calls Tryd.prog 54 #[.pointer (some ⟨b, 0, none⟩), .slice (some ⟨g, 0, none⟩) 2 c, .pointer q] w (T7Post (some (.pair s t)) w) := by
  have t0 : (hd.toList == [110, 97, 109, 101]) = false := by rw [hhd]; rfl
  have t1 : (hd.toList == [108, 97, 109]) = false := by rw [hhd]; rfl
  have t2 : (hd.toList == [97, 112, 112]) = false := by rw [hhd]; rfl
  have t3 : (hd.toList == [105, 102]) = false := by rw [hhd]; rfl
  have t4 : (hd.toList == [112, 97, 105, 114]) = true := by rw [hhd]; rfl
  have HS := hid hs
  have HT := hid ht
  clear hs ht hhd
  go_enter Tryd.func54, Tryd.ntmps54
  go_wp2_with fail
  go_region
  all_goals
    go_wp2_with fail
    go_ret2
    exact t7_some (((Below.refl w.heap.size w).drew).alloc (Nat.le_refl _) _) ((tnode HS.out.drew HT.out.drew _ _ rfl).2 (by rw [Go.ByteArray.toList_eq]))

set_option maxRecDepth 100000 in
set_option maxHeartbeats 4000000 in
theorem tf_fst {w : World} {b : Nat} {hd : ByteArray} (hhd : hd.toList = [102, 115, 116]) (k0 : w.cell? ⟨b, 0, none⟩ = some (.string hd)) {t : STy} {a g c : Nat} {q : Option Addr} (g0 : w.cell? ⟨g, 0, none⟩ = some (.pointer (some ⟨a, 0, none⟩))) (ht : SIn w (fun _ => True) t a) :
    Calls Tryd.prog 54 #[.pointer (some ⟨b, 0, none⟩), .slice (some ⟨g, 0, none⟩) 1 c, .pointer q] w (T7Post (tfFst t) w) := by
  have t0 : (hd.toList == [110, 97, 109, 101]) = false := by rw [hhd]; rfl
  have t1 : (hd.toList == [108, 97, 109]) = false := by rw [hhd]; rfl
  have t2 : (hd.toList == [97, 112, 112]) = false := by rw [hhd]; rfl
  have t3 : (hd.toList == [105, 102]) = false := by rw [hhd]; rfl
  have t4 : (hd.toList == [112, 97, 105, 114]) = false := by rw [hhd]; rfl
  have t5 : (hd.toList == [102, 115, 116]) = true := by rw [hhd]; rfl
  obtain ⟨hd2, p1, p2, k1, k2, k3, hm⟩ := ht.cells
  clear hhd
  obtain ⟨R, hR⟩ : ∃ R, tfFst t = R := ⟨_, rfl⟩
  rw [hR]
  have HR := hid hR
  clear hR
  cases t with
  | bit =>
    have HRN := hid (show R = none from HR.out.symm)
    have e0 : (hd2.toList == [42]) = false := by rw [hm]; rfl
    clear hm ht HR
    go_enter Tryd.func54, Tryd.ntmps54
    go_wp2_with fail
    go_quiet (fail)
    go_wp2_with fail
    go_ret2
    rw [HRN.out]
    exact t7_none (below_drewN (Below.refl _ _) _)
  | fn x y =>
    have HRN := hid (show R = none from HR.out.symm)
    have e0 : (hd2.toList == [42]) = false := by rw [hm.1]; rfl
    clear hm ht HR
    go_enter Tryd.func54, Tryd.ntmps54
    go_wp2_with fail
    go_quiet (fail)
    go_wp2_with fail
    go_ret2
    rw [HRN.out]
    exact t7_none (below_drewN (Below.refl _ _) _)
  | pair x y =>
    have HRS := hid (show R = some x from HR.out.symm)
    have e0 : (hd2.toList == [42]) = true := by rw [hm.1]; rfl
    obtain ⟨_, c1, c2, rfl, rfl, hx, hy⟩ := hm
    have HX := hid hx
    have HY := hid hy
    clear hx hy ht HR
    go_enter Tryd.func54, Tryd.ntmps54
    go_wp2_with fail
    go_quiet (fail)
    go_wp2_with fail
    go_ret2
    rw [HRS.out]
    exact t7_some (below_drewN (Below.refl _ _) _) (HX.out.drewN _)

set_option maxRecDepth 100000 in
set_option maxHeartbeats 4000000 in
theorem tf_snd {w : World} {b : Nat} {hd : ByteArray} (hhd : hd.toList = [115, 110, 100]) (k0 : w.cell? ⟨b, 0, none⟩ = some (.string hd)) {t : STy} {a g c : Nat} {q : Option Addr} (g0 : w.cell? ⟨g, 0, none⟩ = some (.pointer (some ⟨a, 0, none⟩))) (ht : SIn w (fun _ => True) t a) :
    Calls Tryd.prog 54 #[.pointer (some ⟨b, 0, none⟩), .slice (some ⟨g, 0, none⟩) 1 c, .pointer q] w (T7Post (tfSnd t) w) := by
  have t0 : (hd.toList == [110, 97, 109, 101]) = false := by rw [hhd]; rfl
  have t1 : (hd.toList == [108, 97, 109]) = false := by rw [hhd]; rfl
  have t2 : (hd.toList == [97, 112, 112]) = false := by rw [hhd]; rfl
  have t3 : (hd.toList == [105, 102]) = false := by rw [hhd]; rfl
  have t4 : (hd.toList == [112, 97, 105, 114]) = false := by rw [hhd]; rfl
  have t5 : (hd.toList == [102, 115, 116]) = false := by rw [hhd]; rfl
  have t6 : (hd.toList == [115, 110, 100]) = true := by rw [hhd]; rfl
  obtain ⟨hd2, p1, p2, k1, k2, k3, hm⟩ := ht.cells
  clear hhd
  obtain ⟨R, hR⟩ : ∃ R, tfSnd t = R := ⟨_, rfl⟩
  rw [hR]
  have HR := hid hR
  clear hR
  cases t with
  | bit =>
    have HRN := hid (show R = none from HR.out.symm)
    have e0 : (hd2.toList == [42]) = false := by rw [hm]; rfl
    clear hm ht HR
    go_enter Tryd.func54, Tryd.ntmps54
    go_wp2_with fail
    go_quiet (fail)
    go_wp2_with fail
    go_ret2
    rw [HRN.out]
    exact t7_none (below_drewN (Below.refl _ _) _)
  | fn x y =>
    have HRN := hid (show R = none from HR.out.symm)
    have e0 : (hd2.toList == [42]) = false := by rw [hm.1]; rfl
    clear hm ht HR
    go_enter Tryd.func54, Tryd.ntmps54
    go_wp2_with fail
    go_quiet (fail)
    go_wp2_with fail
    go_ret2
    rw [HRN.out]
    exact t7_none (below_drewN (Below.refl _ _) _)
  | pair x y =>
    have HRS := hid (show R = some y from HR.out.symm)
    have e0 : (hd2.toList == [42]) = true := by rw [hm.1]; rfl
    obtain ⟨_, c1, c2, rfl, rfl, hx, hy⟩ := hm
    have HX := hid hx
    have HY := hid hy
    clear hx hy ht HR
    go_enter Tryd.func54, Tryd.ntmps54
    go_wp2_with fail
    go_quiet (fail)
    go_wp2_with fail
    go_ret2
    rw [HRS.out]
    exact t7_some (below_drewN (Below.refl _ _) _) (HY.out.drewN _)

set_option maxRecDepth 100000 in
set_option maxHeartbeats 4000000 in
theorem tf_put {w : World} {b : Nat} {hd : ByteArray} (hhd : hd.toList = [112, 117, 116]) (k0 : w.cell? ⟨b, 0, none⟩ = some (.string hd)) {t : STy} {a g c : Nat} {q : Option Addr} (g0 : w.cell? ⟨g, 0, none⟩ = some (.pointer (some ⟨a, 0, none⟩))) (ht : SIn w (fun _ => True) t a) :
    Calls Tryd.prog 54 #[.pointer (some ⟨b, 0, none⟩), .slice (some ⟨g, 0, none⟩) 1 c, .pointer q] w (T7Post (tfPut t) w) := by
  have t0 : (hd.toList == [110, 97, 109, 101]) = false := by rw [hhd]; rfl
  have t1 : (hd.toList == [108, 97, 109]) = false := by rw [hhd]; rfl
  have t2 : (hd.toList == [97, 112, 112]) = false := by rw [hhd]; rfl
  have t3 : (hd.toList == [105, 102]) = false := by rw [hhd]; rfl
  have t4 : (hd.toList == [112, 97, 105, 114]) = false := by rw [hhd]; rfl
  have t5 : (hd.toList == [102, 115, 116]) = false := by rw [hhd]; rfl
  have t6 : (hd.toList == [115, 110, 100]) = false := by rw [hhd]; rfl
  have t7 : (hd.toList == [112, 117, 116]) = true := by rw [hhd]; rfl
  obtain ⟨hd2, p1, p2, k1, k2, k3, hm⟩ := ht.cells
  clear hhd
  obtain ⟨R, hR⟩ : ∃ R, tfPut t = R := ⟨_, rfl⟩
  rw [hR]
  have HR := hid hR
  have HT := hid ht
  clear hR
  cases t with
  | bit =>
    have HRS := hid (show R = some .bit from HR.out.symm)
    have e0 : (hd2.toList == [98]) = true := by rw [hm]; rfl
    clear hm ht HR
    go_enter Tryd.func54, Tryd.ntmps54
    go_wp2_with fail
    go_quiet (fail)
    go_wp2_with fail
    go_ret2
    rw [HRS.out]
    exact t7_some (below_drewN (Below.refl _ _) _) (HT.out.drewN _)
  | fn x y =>
    have HRN := hid (show R = none from HR.out.symm)
    have e0 : (hd2.toList == [98]) = false := by rw [hm.1]; rfl
    clear hm ht HR
    go_enter Tryd.func54, Tryd.ntmps54
    go_wp2_with fail
    go_quiet (fail)
    go_wp2_with fail
    go_ret2
    rw [HRN.out]
    exact t7_none (below_drewN (Below.refl _ _) _)
  | pair x y =>
    have HRN := hid (show R = none from HR.out.symm)
    have e0 : (hd2.toList == [98]) = false := by rw [hm.1]; rfl
    clear hm ht HR
    go_enter Tryd.func54, Tryd.ntmps54
    go_wp2_with fail
    go_quiet (fail)
    go_wp2_with fail
    go_ret2
    rw [HRN.out]
    exact t7_none (below_drewN (Below.refl _ _) _)

set_option maxRecDepth 100000 in
set_option maxHeartbeats 4000000 in
theorem tf_app {w : World} {b : Nat} {hd : ByteArray} (hhd : hd.toList = [97, 112, 112]) (k0 : w.cell? ⟨b, 0, none⟩ = some (.string hd)) {t u : STy} {a d g c : Nat} {q : Option Addr} (g0 : w.cell? ⟨g, 0, none⟩ = some (.pointer (some ⟨a, 0, none⟩))) (ht : SIn w (fun _ => True) t a) (g1 : w.cell? ⟨g, 1, none⟩ = some (.pointer (some ⟨d, 0, none⟩))) (hu : SIn w (fun _ => True) u d) (hn : t.n ≤ 12 ∧ u.n ≤ 12) :
    Calls Tryd.prog 54 #[.pointer (some ⟨b, 0, none⟩), .slice (some ⟨g, 0, none⟩) 2 c, .pointer q] w (T7Post (tfApp t u) w) := by
  have t0 : (hd.toList == [110, 97, 109, 101]) = false := by rw [hhd]; rfl
  have t1 : (hd.toList == [108, 97, 109]) = false := by rw [hhd]; rfl
  have t2 : (hd.toList == [97, 112, 112]) = true := by rw [hhd]; rfl
  obtain ⟨hd2, p1, p2, k1, k2, k3, hm⟩ := ht.cells
  clear hhd
  obtain ⟨R, hR⟩ : ∃ R, tfApp t u = R := ⟨_, rfl⟩
  rw [hR]
  have HR := hid hR
  clear hR
  cases t with
  | bit =>
    have HRN := hid (show R = none from HR.out.symm)
    have e0 : (hd2.toList == [62]) = false := by rw [hm]; rfl
    clear hm ht HR hu
    go_enter Tryd.func54, Tryd.ntmps54
    go_wp2_with fail
    go_quiet (fail)
    go_wp2_with fail
    go_ret2
    rw [HRN.out]
    exact t7_none (below_drewN (Below.refl _ _) _)
  | pair x y =>
    have HRN := hid (show R = none from HR.out.symm)
    have e0 : (hd2.toList == [62]) = false := by rw [hm.1]; rfl
    clear hm ht HR hu
    go_enter Tryd.func54, Tryd.ntmps54
    go_wp2_with fail
    go_quiet (fail)
    go_wp2_with fail
    go_ret2
    rw [HRN.out]
    exact t7_none (below_drewN (Below.refl _ _) _)
  | fn x y =>
    have HRS := hid (show R = if eqT x u then some y else none from HR.out.symm)
    have e0 : (hd2.toList == [62]) = true := by rw [hm.1]; rfl
    obtain ⟨_, c1, c2, rfl, rfl, hx, hy⟩ := hm
    simp only [STy.n] at hn
    have HX := hid (same7_any hx.drew hu.drew (by omega) (by omega))
    have HY := hid hy
    have KB := hid (fun W (hb : Below w.heap.size w W) => (show W.cell? ⟨g, 0, none⟩ = some (.pointer (some ⟨a, 0, none⟩)) ∧ W.cell? ⟨g, 1, none⟩ = some (.pointer (some ⟨d, 0, none⟩)) ∧ W.cell? ⟨a, 0, none⟩ = some (.string hd2) ∧ W.cell? ⟨a, 1, none⟩ = some (.pointer (some ⟨c1, 0, none⟩)) ∧ W.cell? ⟨a, 2, none⟩ = some (.pointer (some ⟨c2, 0, none⟩)) from by
      have kk := Kept.of_below hb (Nat.le_refl _)
      exact ⟨kk.cell g0, kk.cell g1, kk.cell k1, kk.cell k2, kk.cell k3⟩))
    obtain ⟨B, hB⟩ : ∃ B, eqT x u = B := ⟨_, rfl⟩
    rw [hB] at HX HRS
    clear hx hy ht hu HR hB hn
    go_enter Tryd.func54, Tryd.ntmps54
    go_wp2_with fail
    go_region_held3 (fun w' => w'.cell? ⟨g, 0, none⟩ = some (.pointer (some ⟨a, 0, none⟩)) ∧ w'.cell? ⟨g, 1, none⟩ = some (.pointer (some ⟨d, 0, none⟩)) ∧ w'.cell? ⟨a, 0, none⟩ = some (.string hd2) ∧ w'.cell? ⟨a, 1, none⟩ = some (.pointer (some ⟨c1, 0, none⟩)) ∧ w'.cell? ⟨a, 2, none⟩ = some (.pointer (some ⟨c2, 0, none⟩)))
      (first | exact ⟨g0, g1, k1, k2, k3⟩ | exact e2)
      ((go_at_call 63; refine HX.out.mono ?_; rintro e w2 ⟨rfl, hb2⟩; have hb02 := below_nx hb2 ((Below.refl _ w).drew); have e2 := KB.out _ hb02; have HB2 := hid hb02; clear hb2 hb02))
    go_wp2_with fail
    go_ret2
    rw [HRS.out]
    cases B with
    | true => exact t7_some HB2.out (HY.out.kept (Kept.of_below HB2.out (Nat.le_refl _)))
    | false => exact t7_none HB2.out

set_option maxRecDepth 100000 in
set_option maxHeartbeats 4000000 in
theorem tf_if {w : World} {b : Nat} {hd : ByteArray} (hhd : hd.toList = [105, 102]) (k0 : w.cell? ⟨b, 0, none⟩ = some (.string hd)) {t u v : STy} {a d f g c : Nat} {q : Option Addr} (g0 : w.cell? ⟨g, 0, none⟩ = some (.pointer (some ⟨a, 0, none⟩))) (ht : SIn w (fun _ => True) t a) (g1 : w.cell? ⟨g, 1, none⟩ = some (.pointer (some ⟨d, 0, none⟩))) (hu : SIn w (fun _ => True) u d) (g2 : w.cell? ⟨g, 2, none⟩ = some (.pointer (some ⟨f, 0, none⟩))) (hv : SIn w (fun _ => True) v f) (hn : u.n ≤ 12 ∧ v.n ≤ 12) :
    Calls Tryd.prog 54 #[.pointer (some ⟨b, 0, none⟩), .slice (some ⟨g, 0, none⟩) 3 c, .pointer q] w (T7Post (tfIf t u v) w) := by
  have t0 : (hd.toList == [110, 97, 109, 101]) = false := by rw [hhd]; rfl
  have t1 : (hd.toList == [108, 97, 109]) = false := by rw [hhd]; rfl
  have t2 : (hd.toList == [97, 112, 112]) = false := by rw [hhd]; rfl
  have t3 : (hd.toList == [105, 102]) = true := by rw [hhd]; rfl
  obtain ⟨hd2, p1, p2, k1, k2, k3, hm⟩ := ht.cells
  clear hhd
  obtain ⟨R, hR⟩ : ∃ R, tfIf t u v = R := ⟨_, rfl⟩
  rw [hR]
  have HR := hid hR
  clear hR
  cases t with
  | fn x y =>
    have HRN := hid (show R = none from HR.out.symm)
    have e0 : (hd2.toList == [98]) = false := by rw [hm.1]; rfl
    clear hm ht HR hu hv
    go_enter Tryd.func54, Tryd.ntmps54
    go_wp2_with fail
    go_quiet (fail)
    go_wp2_with fail
    go_ret2
    rw [HRN.out]
    exact t7_none (below_drewN (Below.refl _ _) _)
  | pair x y =>
    have HRN := hid (show R = none from HR.out.symm)
    have e0 : (hd2.toList == [98]) = false := by rw [hm.1]; rfl
    clear hm ht HR hu hv
    go_enter Tryd.func54, Tryd.ntmps54
    go_wp2_with fail
    go_quiet (fail)
    go_wp2_with fail
    go_ret2
    rw [HRN.out]
    exact t7_none (below_drewN (Below.refl _ _) _)
  | bit =>
    have HRS := hid (show R = if eqT u v then some u else none from HR.out.symm)
    have e0 : (hd2.toList == [98]) = true := by rw [hm]; rfl
    have HX := hid (same7_any hu.drew hv.drew (by omega) (by omega))
    have HY := hid hu
    have KB := hid (fun W (hb : Below w.heap.size w W) => (show W.cell? ⟨g, 0, none⟩ = some (.pointer (some ⟨a, 0, none⟩)) ∧ W.cell? ⟨g, 1, none⟩ = some (.pointer (some ⟨d, 0, none⟩)) ∧ W.cell? ⟨g, 2, none⟩ = some (.pointer (some ⟨f, 0, none⟩)) ∧ W.cell? ⟨a, 0, none⟩ = some (.string hd2) from by
      have kk := Kept.of_below hb (Nat.le_refl _)
      exact ⟨kk.cell g0, kk.cell g1, kk.cell g2, kk.cell k1⟩))
    obtain ⟨B, hB⟩ : ∃ B, eqT u v = B := ⟨_, rfl⟩
    rw [hB] at HX HRS
    clear ht hu hv HR hB hn hm
    go_enter Tryd.func54, Tryd.ntmps54
    go_wp2_with fail
    go_region_held3 (fun w' => w'.cell? ⟨g, 0, none⟩ = some (.pointer (some ⟨a, 0, none⟩)) ∧ w'.cell? ⟨g, 1, none⟩ = some (.pointer (some ⟨d, 0, none⟩)) ∧ w'.cell? ⟨g, 2, none⟩ = some (.pointer (some ⟨f, 0, none⟩)) ∧ w'.cell? ⟨a, 0, none⟩ = some (.string hd2))
      (first | exact ⟨g0, g1, g2, k1⟩ | exact e2)
      ((go_at_call 63; refine HX.out.mono ?_; rintro e w2 ⟨rfl, hb2⟩; have hb02 := below_nx hb2 ((Below.refl _ w).drew); have e2 := KB.out _ hb02; have HB2 := hid hb02; clear hb2 hb02))
    go_wp2_with fail
    go_ret2
    rw [HRS.out]
    cases B with
    | true => exact t7_some HB2.out (HY.out.kept (Kept.of_below HB2.out (Nat.le_refl _)))
    | false => exact t7_none HB2.out
end Go.Proofs.YtgogoekfidbpdaaDoor
