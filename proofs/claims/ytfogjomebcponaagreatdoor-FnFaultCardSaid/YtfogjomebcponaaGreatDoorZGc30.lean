/- Merged: ZGSDrwM, ZGSDmM, ZGSDrwN. -/
import Derived.Test.YtfogjomebcponaaGreatDoorZGSDrwV0
import Derived.Test.YtfogjomebcponaaGreatDoorZG13
import Derived.Test.YtfogjomebcponaaGreatDoorZG18
namespace Go.Proofs.YtfogjomebcponaaGreatDoor
open Go.RowKit
set_option maxRecDepth 100000
set_option maxHeartbeats 16000000
def mA : Nat → Nat
 | 0 => 1000
 | d + 1 => 6 * mA d + 200
def mC (d n : Nat) : Nat := mA d * (n + 30)
def mV (d n : Nat) : Nat := (6 * mA d + 60) * (n + 1)
structure Scp (w : World) (p q : Option Addr) (n c d : Nat) (ns ts : List ByteArray) : Prop where
 a : SV w p n c ns
 b : SV w q n d ts
 n20 : n ≤ 20
 na : ∀ s ∈ ns, s.size ≤ 60
theorem Scp.kept {w w' : World} {p q : Option Addr} {n c d : Nat} {ns ts : List ByteArray} (h : Scp w p q n c d ns ts) (hk : Kept w w') : Scp w' p q n c d ns ts :=
 ⟨h.a.kept hk, h.b.kept hk, h.n20, h.na⟩
theorem rd_ne1 {w : World} {b q : Nat} {a : Addr} {s : ByteArray} (hr : Rd w b q) (h : w.cell? a = some (.string s)) : a.block ≠ b := by
 intro e
 obtain ⟨p, n, c, zs, k, hb, _⟩ := hr
 unfold World.cell? at h
 rw [e, hb] at h
 simp only at h
 split at h
 ·cases h
 ·have hs := Array.getElem?_eq_some_iff.1 h
  obtain ⟨hi, hv⟩ := hs
  have h2 : a.off < 2 := by simpa using hi
  have : a.off = 0 ∨ a.off = 1 := by omega
  rcases this with h0 | h0
  ·rw [h0] at h; simp at h
  ·rw [h0] at h; simp at h
theorem sv_px1 {w w' : World} {b q : Nat} {p : Option Addr} {n c : Nat} {l : List ByteArray} (h : SV w p n c l) (hr : Rd w b q) (hp : Px b w w') : SV w' p n c l :=
 ⟨h.1, h.2.1, fun i s hs => by
   obtain ⟨g, he, hc⟩ := h.2.2 i s hs
   exact ⟨g, he, hp.cell (rd_ne1 hr hc) hc⟩⟩
theorem Scp.px {w w' : World} {b r : Nat} {p q : Option Addr} {n c d : Nat} {ns ts : List ByteArray} (h : Scp w p q n c d ns ts) (hr : Rd w b r) (hp : Px b w w') : Scp w' p q n c d ns ts :=
 ⟨sv_px1 h.a hr hp, sv_px1 h.b hr hp, h.n20, h.na⟩
def nmS : List ByteArray := [⟨#[97]⟩, ⟨#[99]⟩, ⟨#[120]⟩, ⟨#[121]⟩, ⟨#[110, 48]⟩, ⟨#[107, 49]⟩]
theorem l91Name_any {w : World} {b q : Nat} (hr : Rd w b q) (hq : q + 2 ≤ 1099511627776) : Calls Tryz.prog 119 #[.pointer (some ⟨b, 0, none⟩)] w (Drawn b (q + 1) 2 w) := by
 have hlt := hr.lt
 have HO := hid (rof (hr.alloc (.cells (nmS.map Value.string).toArray 9)) (by omega) w.heap.size 6 6 2 nmS (sv_lit w nmS 6 6 9 rfl) (by omega) (by omega) (by omega) (by intro s hs; simp only [nmS, List.mem_cons, List.mem_nil_iff, or_false] at hs; rcases hs with rfl | rfl | rfl | rfl | rfl | rfl <;> decide))
 clear hr
 go_enter Tryz.func119, Tryz.ntmps119
 go_wp2_with fail
 go_at_call 40
 refine HO.out.mono ?_
 rintro e w2 ⟨s2, rfl, hs2, hr2, hp2⟩
 have HR2 := hid hr2
 have HX2 := hid (((Px.refl b w).alloc _).trans hp2)
 clear hr2 hp2
 go_wp2_with fail
 go_ret
 exact ⟨_, rfl, hs2, HR2.out, HX2.out⟩
def MorePost (ns ts : List ByteArray) (n : Nat) (w : World) (e : Ending) (w' : World) : Prop :=
 ∃ p q c d, e = .returned (.agg #[.slice p (n + 1) c, .slice q (n + 1) d]) ∧ Scp w' p q (n + 1) c d ns ts ∧ Below w.heap.size w w'
theorem box2f {w : World} {b : Nat} {x y : Value} {t : TypeId} (h : w.heap[b]? = some (.cells #[x, y] t (0, 0))) :
    (w.cell? ⟨b, 0, none⟩ = some x ∧ w.cell? ⟨b, 1, none⟩ = some y) ∧ (w.frozen? ⟨b, 0, none⟩ = false ∧ w.frozen? ⟨b, 1, none⟩ = false) ∧ b < w.heap.size := by
 refine ⟨?_, ?_, lt_of_block h⟩
 ·simp [World.cell?, h]
 ·simp [World.frozen?, h]
structure MoreW (w W1 : World) (p q : Option Addr) (n c d : Nat) (W : World) : Prop where
 below : Below W1.heap.size W1 W
 c0 : W.cell? ⟨w.heap.size, 0, none⟩ = some (.slice p n c)
 c1 : W.cell? ⟨w.heap.size, 1, none⟩ = some (.slice q n d)
 r : W.heap[w.heap.size + 1]? = some (.cells #[.slice none 0 0, .slice none 0 0] 114 (0, 0))
 kept : Kept w W
theorem MoreW.step {w W1 : World} {p q : Option Addr} {n c d : Nat} {W W' : World} (h : MoreW w W1 p q n c d W) (hz : w.heap.size + 1 < W.heap.size) (hb : Below W.heap.size W W') : MoreW w W1 p q n c d W' :=
 ⟨h.below.trans (hb.mono h.below.size), (hb.cell (p := ⟨w.heap.size, 0, none⟩) (by show w.heap.size < _; omega)).trans h.c0, (hb.cell (p := ⟨w.heap.size, 1, none⟩) (by show w.heap.size < _; omega)).trans h.c1, (hb.block _ hz).trans h.r, h.kept.below hb (by omega)⟩
theorem MoreW.lt {w W1 : World} {p q : Option Addr} {n c d : Nat} {W : World} (h : MoreW w W1 p q n c d W) : w.heap.size + 1 < W.heap.size := lt_of_block h.r
theorem MoreW.drew {w W1 : World} {p q : Option Addr} {n c d : Nat} {W : World} (h : MoreW w W1 p q n c d W) : MoreW w W1 p q n c d W.drew := h.step h.lt (Below.refl _ _).drew
theorem MoreW.alloc {w W1 : World} {p q : Option Addr} {n c d : Nat} {W : World} (h : MoreW w W1 p q n c d W) (o : Obj) : MoreW w W1 p q n c d (W.alloc o) := h.step h.lt ((Below.refl _ _).alloc (Nat.le_refl _) o)
theorem sec {w : World} {a : Addr} {b i : Nat} {v x : Value} (hne : a.block ≠ b) (h : w.cell? a = some x) : (w.setCell ⟨b, i, none⟩ v).cell? a = some x :=
 (World.cell?_of_block (w := w) (Below.heap_setCell _ _ _ _ hne)).trans h
theorem sv_box {w : World} {b m c : Nat} {u v : Value} {t : TypeId} {p : Option Addr} {l : List ByteArray} (hb : w.heap[b]? = some (.cells #[.slice none 0 0, .slice none 0 0] t (0, 0))) (h : SV w p m c l) : SV ((w.setCell ⟨b, 0, none⟩ u).setCell ⟨b, 1, none⟩ v) p m c l :=
 ⟨h.1, h.2.1, fun i s hs => by
   obtain ⟨g, he, hc⟩ := h.2.2 i s hs
   have hne : g ≠ b := by
    intro e
    subst e
    unfold World.cell? at hc
    rw [hb] at hc
    simp only at hc
    split at hc
    ·cases hc
    ·obtain ⟨hi, hv⟩ := Array.getElem?_eq_some_iff.1 hc
     have h2 : i < 2 := by simpa using hi
     have : i = 0 ∨ i = 1 := by omega
     rcases this with h0 | h0
     ·subst h0; simp at hc
     ·subst h0; simp at hc
   exact ⟨g, he, sec (a := ⟨g, i, none⟩) hne (sec (a := ⟨g, i, none⟩) hne hc)⟩⟩
theorem below_box {B : Nat} {w w5 : World} {b : Nat} {u v : Value} (h : Below B w w5) (hb : B ≤ b) : Below B w ((w5.setCell ⟨b, 0, none⟩ u).setCell ⟨b, 1, none⟩ v) :=
 ⟨h.os, h.tape, h.output, Nat.le_trans h.size (by simp [World.setCell]), fun k hk => ((Below.heap_setCell _ _ _ _ (show k ≠ b by omega)).trans (Below.heap_setCell _ _ _ _ (show k ≠ b by omega))).trans (h.block k hk)⟩
theorem lit_at {w : World} {g : Nat} {x : ByteArray} {t : TypeId} (h : w.heap.size = g) : SV (w.alloc (.cells #[.string x] t)) (some ⟨g, 0, none⟩) 1 1 [x] := by
 subst h; exact sv_lit w [x] 1 1 t rfl
theorem sv_alloc {w : World} {g n c : Nat} {l : List ByteArray} (h : SV w (some ⟨g, 0, none⟩) n c l) (o : Obj) : SV (w.alloc o) (some ⟨g, 0, none⟩) n c l := h.kept ((Kept.refl w).alloc (Nat.le_refl _) o)
theorem sv_drew {w : World} {g n c : Nat} {l : List ByteArray} (h : SV w (some ⟨g, 0, none⟩) n c l) : SV w.drew (some ⟨g, 0, none⟩) n c l := h.kept (Kept.of_below (Below.refl w.heap.size w).drew (Nat.le_refl _))
theorem sv_below {w w' : World} {g n c : Nat} {l : List ByteArray} (hb : Below w.heap.size w w') (h : SV w (some ⟨g, 0, none⟩) n c l) : SV w' (some ⟨g, 0, none⟩) n c l := h.kept (Kept.of_below hb (Nat.le_refl _))
theorem l91More_any {w : World} {p q : Option Addr} {n c d : Nat} {ns ts : List ByteArray} (h : Scp w p q n c d ns ts) (hn : n ≤ 19) (x k : ByteArray) (hx : x.size ≤ 60) :
    Calls Tryz.prog 120 #[.agg #[.slice p n c, .slice q n d], .string x, .string k] w (MorePost (ns ++ [x]) (ts ++ [k]) n w) := by
 have HS := hid h
 have hln := h.a.1
 have hlt := h.b.1
 have e1 : (ns ++ [x]).length = n + 1 := by rw [List.length_append, hln]; rfl
 have e2 : (ts ++ [k]).length = n + 1 := by rw [List.length_append, hlt]; rfl
 have b0 : ((w.alloc (.cells #[.slice p n c, .slice q n d] 114)).alloc (.cells #[.slice none 0 0, .slice none 0 0] 114)).heap[w.heap.size]? = some (.cells #[.slice p n c, .slice q n d] 114 (0, 0)) := by
  have h1 := heap_alloc_new w (.cells #[.slice p n c, .slice q n d] 114)
  exact ((Below.refl _ (w.alloc (.cells #[.slice p n c, .slice q n d] 114))).alloc (Nat.le_refl _) (.cells #[.slice none 0 0, .slice none 0 0] 114)).block _ (lt_of_block h1) |>.trans h1
 have b1 : ((w.alloc (.cells #[.slice p n c, .slice q n d] 114)).alloc (.cells #[.slice none 0 0, .slice none 0 0] 114)).heap[w.heap.size + 1]? = some (.cells #[.slice none 0 0, .slice none 0 0] 114 (0, 0)) := by
  have h1 := heap_alloc_new (w.alloc (.cells #[.slice p n c, .slice q n d] 114)) (.cells #[.slice none 0 0, .slice none 0 0] 114)
  rw [show (w.alloc (.cells #[.slice p n c, .slice q n d] 114)).heap.size = w.heap.size + 1 by simp] at h1
  exact h1
 have BB : Below w.heap.size w ((w.alloc (.cells #[.slice p n c, .slice q n d] 114)).alloc (.cells #[.slice none 0 0, .slice none 0 0] 114)) := (((Below.refl w.heap.size w).alloc (Nat.le_refl _) _).alloc (by simp) _)
 have M0 := hid (show MoreW w ((w.alloc (.cells #[.slice p n c, .slice q n d] 114)).alloc (.cells #[.slice none 0 0, .slice none 0 0] 114)) p q n c d ((w.alloc (.cells #[.slice p n c, .slice q n d] 114)).alloc (.cells #[.slice none 0 0, .slice none 0 0] 114)) from ⟨Below.refl _ _, (cel b0).1, (cel b0).2.1, b1, Kept.of_below BB (Nat.le_refl _)⟩)
 have HB0 := hid BB
 have HC1 := hid (fun W g (hm : MoreW w ((w.alloc (.cells #[.slice p n c, .slice q n d] 114)).alloc (.cells #[.slice none 0 0, .slice none 0 0] 114)) p q n c d W) (hs : SV W (some ⟨g, 0, none⟩) 1 1 [x]) => (l2With_any ns [x] p (some ⟨g, 0, none⟩) n 1 c 1 W (HS.out.a.kept hm.kept) hs (by omega) (by omega)).mono fun e w' hp => (show (∃ q1 k1, e = .returned (.slice q1 (n + 1) k1) ∧ SV w' q1 (n + 1) k1 (ns ++ [x]) ∧ MoreW w ((w.alloc (.cells #[.slice p n c, .slice q n d] 114)).alloc (.cells #[.slice none 0 0, .slice none 0 0] 114)) p q n c d w' ∧ Below W.heap.size W w') from by
  obtain ⟨q1, k1, he, ho, hb⟩ := hp.sv
  rw [e1] at he ho
  exact ⟨q1, k1, he, ho, hm.step hm.lt hb, hb⟩))
 have HC2 := hid (fun W g (hm : MoreW w ((w.alloc (.cells #[.slice p n c, .slice q n d] 114)).alloc (.cells #[.slice none 0 0, .slice none 0 0] 114)) p q n c d W) (hs : SV W (some ⟨g, 0, none⟩) 1 1 [k]) => (l2With_any ts [k] q (some ⟨g, 0, none⟩) n 1 d 1 W (HS.out.b.kept hm.kept) hs (by omega) (by omega)).mono fun e w' hp => (show (∃ q1 k1, e = .returned (.slice q1 (n + 1) k1) ∧ SV w' q1 (n + 1) k1 (ts ++ [k]) ∧ MoreW w ((w.alloc (.cells #[.slice p n c, .slice q n d] 114)).alloc (.cells #[.slice none 0 0, .slice none 0 0] 114)) p q n c d w' ∧ Below W.heap.size W w') from by
  obtain ⟨q1, k1, he, ho, hb⟩ := hp.sv
  rw [e2] at he ho
  exact ⟨q1, k1, he, ho, hm.step hm.lt hb, hb⟩))
 have a0 := M0.out.drew.c0
 have a1 := M0.out.drew.c1
 clear h b0 b1 BB
 go_enter Tryz.func120, Tryz.ntmps120
 go_wp2_with fail
 go_region_held3 (fun w' => w'.cell? ⟨w.heap.size, 0, none⟩ = some (.slice p n c) ∧ w'.cell? ⟨w.heap.size, 1, none⟩ = some (.slice q n d))
  (first | exact ⟨M0.out.drew.c0, M0.out.drew.c1⟩ | exact ⟨(MoreW.drew (MoreW.alloc M0.out _)).c0, (MoreW.drew (MoreW.alloc M0.out _)).c1⟩ | exact ⟨(MoreW.drew (MoreW.alloc (MoreW.alloc M0.out _) _)).c0, (MoreW.drew (MoreW.alloc (MoreW.alloc M0.out _) _)).c1⟩ | exact ⟨sec (by simp) (sec (by simp) HM5.out.c0), sec (by simp) (sec (by simp) HM5.out.c1)⟩ | exact ⟨HM5.out.c0, HM5.out.c1⟩ | exact ⟨HM4.out.c0, HM4.out.c1⟩ | exact ⟨(MoreW.alloc HM4.out _).c0, (MoreW.alloc HM4.out _).c1⟩ | exact ⟨(MoreW.drew (MoreW.alloc HM4.out _)).c0, (MoreW.drew (MoreW.alloc HM4.out _)).c1⟩ | (trace_state; fail))
  (first
    | (have _ := HO1
       go_at_call 72
       with_reducible (first
        | refine (HC2.out _ _ (MoreW.alloc HM4.out (.cells #[.string k] 9)) (lit_at rfl)).mono ?_
        | refine (HC2.out _ _ HM4.out (sv_below HB4.out (sv_drew (lit_at (by simp))))).mono ?_
        | refine (HC2.out _ _ HM4.out (sv_below HB4.out (sv_drew (sv_alloc (lit_at (by simp)) (.cells #[.string x] 9))))).mono ?_)
       rintro e w5 ⟨q2, k2, rfl, ho2, hm5, hb5⟩
       have HO2 := hid ho2
       have HM5 := hid hm5
       have HB5 := hid hb5
       obtain ⟨⟨c50, c51⟩, ⟨f50, f51⟩, l50⟩ := box2f hm5.r
       clear ho2 hm5 hb5)
    | (go_at_call 72
       with_reducible (first
        | refine (HC1.out _ _ (MoreW.drew (MoreW.alloc M0.out (.cells #[.string x] 9))) (sv_drew (lit_at (by simp)))).mono ?_
        | refine (HC1.out _ _ (MoreW.drew (MoreW.alloc (MoreW.alloc M0.out (.cells #[.string x] 9)) (.cells #[.string k] 9))) (sv_drew (sv_alloc (lit_at (by simp)) (.cells #[.string k] 9)))).mono ?_
        | refine (HC1.out _ _ (MoreW.drew (MoreW.alloc (MoreW.alloc M0.out (.cells #[.string k] 9)) (.cells #[.string x] 9))) (sv_drew (lit_at (by simp)))).mono ?_)
       rintro e w4 ⟨q1, k1, rfl, ho1, hm4, hb4⟩
       have HO1 := hid ho1
       have HM4 := hid hm4
       have HB4 := hid hb4
       clear ho1 hm4 hb4))
 all_goals
  go_wp2_with fail
  have hr5 := HM5.out.r
  have f1 := par (u := .slice q2 (n + 1) k2) (pae (u := .slice q1 (n + 1) k1) hr5)
  obtain ⟨g0, g1, _, _⟩ := cel f1
  have s1 : SV w5 q1 (n + 1) k1 (ns ++ [x]) := by
   first
   | exact HO1.out.kept (Kept.of_below HB5.out (Nat.le_refl _))
   | exact (HO1.out.kept ((Kept.refl w4).alloc (Nat.le_refl _) _)).kept (Kept.of_below HB5.out (Nat.le_refl _))
  have hbw := HB0.out.trans (HM5.out.below.mono HB0.out.size)
  refine bodyPost_ret (v := .agg #[.slice q1 (n + 1) k1, .slice q2 (n + 1) k2]) (by simp [results, Tryz.results120, go_sem, g0, g1]) rfl ?_
  refine ⟨q1, q2, k1, k2, rfl, ⟨sv_box hr5 s1, sv_box hr5 HO2.out, by omega, ?_⟩, below_box hbw (by omega)⟩
  intro s hs
  rcases List.mem_append.1 hs with hs | hs
  ·exact HS.out.na s hs
  ·simp at hs; subst hs; exact hx
def Ter (f : Nat) (b d : Nat) (want : ByteArray) (S : Nat) : Prop :=
 ∀ (r : Nat) (W : World) (p q : Option Addr) (n c e : Nat) (ns ts : List ByteArray) (i : Int), Scp W p q n c e ns ts → Rd W b r → r + S ≤ 400000000 → n + 2 * d ≤ 18 → i = (d : Int) →
  Calls Tryz.prog f #[.pointer (some ⟨b, 0, none⟩), .agg #[.slice p n c, .slice q n e], .string want, .int .i64 i] W (Drawn b (r + S) S W)
theorem Drawn.le {b q q' S S' : Nat} {w w' : World} {e : Ending} (h : Drawn b q S w e w') (hq : q ≤ q') (hS : S ≤ S') : Drawn b q' S' w e w' := by
 obtain ⟨s, he, hs, hr, hp⟩ := h
 exact ⟨s, he, by omega, hr.le hq, hp⟩
theorem Ter.le {f b d : Nat} {want : ByteArray} {S S' : Nat} (h : Ter f b d want S) (hS : S ≤ S') : Ter f b d want S' := by
 intro r W p q n c e ns ts i hsc hr hq hn hi
 exact (h r W p q n c e ns ts i hsc hr (by omega) hn hi).mono fun _ _ h => h.le (by omega) hS
def DrawsM (b d : Nat) : Prop := ∀ want : ByteArray, WantC want → mC d want.size ≤ 400000000 → Ter 83 b d want (mC d want.size)
def DrawsV (b d : Nat) : Prop := ∀ want : ByteArray, mV d want.size ≤ 400000000 → Ter 114 b d want (mV d want.size)
theorem mC_eq (d n : Nat) : mC d n = mA d * n + 30 * mA d := by rw [mC, Nat.mul_add, Nat.mul_comm (mA d) 30]
theorem mV_eq (d n : Nat) : mV d n = 6 * (mA d * n) + 6 * mA d + 60 * n + 60 := by
 rw [mV, Nat.add_mul, Nat.mul_add, Nat.mul_add, Nat.mul_assoc]; omega
theorem mC_succ (d n : Nat) : mC (d + 1) n = 6 * (mA d * n) + 180 * mA d + 200 * n + 6000 := by
 rw [mC, mA, Nat.add_mul, Nat.mul_add, Nat.mul_add, Nat.mul_assoc]; omega
theorem bsi (a b : ByteArray) : (a ++ b).size = a.size + b.size := ByteArray.size_append
structure Parts (b d : Nat) (want : ByteArray) (P A : Nat) : Prop where
 K : ∀ kind : ByteArray, kind.size ≤ 23 → Ter 83 b d (({ data := #[40, 102, 32] } : ByteArray) ++ kind ++ ({ data := #[41] } : ByteArray)) (57 * A)
 W : Ter 83 b d want (P + 30 * A)
 B : Ter 83 b d (({ data := #[40, 62, 32, 98, 32] } : ByteArray) ++ want ++ ({ data := #[41] } : ByteArray)) (P + 36 * A)
 C : Ter 83 b d (({ data := #[40, 38, 32] } : ByteArray) ++ want ++ ({ data := #[32] } : ByteArray) ++ want ++ ({ data := #[41] } : ByteArray)) (2 * P + 35 * A)
 VB : Ter 114 b d ({ data := #[98] } : ByteArray) (12 * A + 120)
 VP : Ter 114 b d ({ data := #[40, 42, 32, 98, 32, 98, 41] } : ByteArray) (48 * A + 480)
theorem parts_of {b d : Nat} {want : ByteArray} (hM : DrawsM b d) (hV : DrawsV b d) (hw : WantC want) (hS : mC (d + 1) want.size ≤ 400000000) : Parts b d want (mA d * want.size) (mA d) := by
 rw [mC_succ] at hS
 have z : ∀ l : Array UInt8, (⟨l⟩ : ByteArray).size = l.size := fun _ => rfl
 refine ⟨?_, ?_, ?_, ?_, ?_, ?_⟩
 ·intro kind hk
  have hz : (({ data := #[40, 102, 32] } : ByteArray) ++ kind ++ ({ data := #[41] } : ByteArray)).size = kind.size + 4 := by rw [bsi, bsi]; show 3 + kind.size + 1 = _; omega
  have hle : mA d * (kind.size + 4) ≤ mA d * 27 := Nat.mul_le_mul_left _ (by omega)
  have h := hM _ (show WantC (({ data := #[40, 102, 32] } : ByteArray) ++ kind ++ ({ data := #[41] } : ByteArray)) from by rw [ByteArray.append_assoc]; exact wantC_app 102 [32] _ (by decide) (by decide) rfl) (by rw [hz, mC_eq]; omega)
  rw [hz, mC_eq] at h
  exact h.le (by omega)
 ·have h := hM want hw (by rw [mC_eq]; omega)
  rw [mC_eq] at h; exact h
 ·have hz : (({ data := #[40, 62, 32, 98, 32] } : ByteArray) ++ want ++ ({ data := #[41] } : ByteArray)).size = want.size + 6 := by rw [bsi, bsi]; show 5 + want.size + 1 = _; omega
  have he : mA d * (want.size + 6) = mA d * want.size + 6 * mA d := by rw [Nat.mul_add]; omega
  have h := hM _ (show WantC (({ data := #[40, 62, 32, 98, 32] } : ByteArray) ++ want ++ ({ data := #[41] } : ByteArray)) from by rw [ByteArray.append_assoc]; exact wantC_app 62 [32, 98, 32] _ (by decide) (by decide) rfl) (by rw [hz, mC_eq, he]; omega)
  rw [hz, mC_eq, he] at h
  exact h.le (by omega)
 ·have hz : (({ data := #[40, 38, 32] } : ByteArray) ++ want ++ ({ data := #[32] } : ByteArray) ++ want ++ ({ data := #[41] } : ByteArray)).size = 2 * want.size + 5 := by rw [bsi, bsi, bsi, bsi]; show 3 + want.size + 1 + want.size + 1 = _; omega
  have he : mA d * (2 * want.size + 5) = 2 * (mA d * want.size) + 5 * mA d := by rw [Nat.mul_add, Nat.mul_left_comm]; omega
  have h := hM _ (show WantC (({ data := #[40, 38, 32] } : ByteArray) ++ want ++ ({ data := #[32] } : ByteArray) ++ want ++ ({ data := #[41] } : ByteArray)) from by rw [ByteArray.append_assoc, ByteArray.append_assoc, ByteArray.append_assoc]; exact wantC_app 38 [32] _ (by decide) (by decide) rfl) (by rw [hz, mC_eq, he]; omega)
  rw [hz, mC_eq, he] at h
  exact h.le (by omega)
 ·have h := hV ({ data := #[98] } : ByteArray) (by rw [mV_eq, z]; simp; omega)
  rw [mV_eq, z] at h
  exact h.le (by simp; omega)
 ·have h := hV ({ data := #[40, 42, 32, 98, 32, 98, 41] } : ByteArray) (by rw [mV_eq, z]; simp; omega)
  rw [mV_eq, z] at h
  exact h.le (by simp; omega)
theorem cases14 {x : Int} (h0 : 0 ≤ x) (h1 : x < 14) : x = 0 ∨ x = 1 ∨ x = 2 ∨ x = 3 ∨ x = 4 ∨ x = 5 ∨ x = 6 ∨ x = 7 ∨ x = 8 ∨ x = 9 ∨ x = 10 ∨ x = 11 ∨ x = 12 ∨ x = 13 := by omega
theorem types1 {w : World} {b q : Nat} (hr : Rd w b q) (hq : q + 3 ≤ 1099511627776) : Calls Tryz.prog 115 #[.pointer (some ⟨b, 0, none⟩), .int .i64 1] w (Drawn b (q + 3) 23 w) := (types_any b 1 (by decide)).1 q w hr hq
def fsL : List ByteArray := [⟨#[102, 115, 116]⟩, ⟨#[115, 110, 100]⟩]
theorem fsL_lit (w : World) : SV (w.alloc (.cells #[.string ⟨#[102, 115, 116]⟩, .string ⟨#[115, 110, 100]⟩] 9)) (some ⟨w.heap.size, 0, none⟩) 2 2 fsL := sv_lit w fsL 2 2 9 rfl
theorem fsL_small : ∀ s ∈ fsL, s.size ≤ 3 := by intro s hs; simp only [fsL, List.mem_cons, List.mem_nil_iff, or_false] at hs; rcases hs with rfl | rfl <;> decide
def DrawnC (b r S : Nat) (wB : World) (C : World → Prop) (en : Ending) (w' : World) : Prop :=
 ∃ s : ByteArray, en = .returned (.string s) ∧ s.size ≤ S ∧ Rd w' b r ∧ Px b wB w' ∧ C w'
theorem Ter.at {f b d : Nat} {want : ByteArray} {S : Nat} (h : Ter f b d want S) {wB : World} {p q : Option Addr} {n c e : Nat} {ns ts : List ByteArray} (hsc : ∀ W, Px b wB W → Scp W p q n c e ns ts) (hn : n + 2 * d ≤ 18) {C : World → Prop} (hC : ∀ W W' r', Rd W b r' → Px b W W' → C W → C W')
    (W : World) (r' : Nat) (i : Int) (hr : Rd W b r') (hx : Px b wB W) (hc : C W) (hl : r' + S ≤ 400000000) (hi : i = (d : Int)) :
    Calls Tryz.prog f #[.pointer (some ⟨b, 0, none⟩), .agg #[.slice p n c, .slice q n e], .string want, .int .i64 i] W (DrawnC b (r' + S) S wB C) :=
 (h r' W p q n c e ns ts i (hsc W hx) hr hl hn hi).mono fun _ w' ⟨s, he, hs, hr2, hp⟩ => ⟨s, he, hs, hr2, hx.trans hp, hC W w' r' hr hp hc⟩
def MoreC (b r : Nat) (wB : World) (C : World → Prop) (n : Nat) (ns ts : List ByteArray) (en : Ending) (w' : World) : Prop :=
 ∃ p q c d, en = .returned (.agg #[.slice p (n + 1) c, .slice q (n + 1) d]) ∧ (∀ W, Px b w' W → Scp W p q (n + 1) c d ns ts) ∧ Rd w' b r ∧ Px b wB w' ∧ C w'
theorem mor {b : Nat} {wB wC : World} {p q : Option Addr} {n c e : Nat} {ns ts : List ByteArray} (hsc : ∀ W, Px b wC W → Scp W p q n c e ns ts) (hn : n ≤ 19) {C : World → Prop} (hC : ∀ W W' r', Rd W b r' → Px b W W' → C W → C W')
    (x k : ByteArray) (hx60 : x.size ≤ 60) (W : World) (r' : Nat) (hr : Rd W b r') (hx : Px b wC W) (hb : Px b wB W) (hc : C W) :
    Calls Tryz.prog 120 #[.agg #[.slice p n c, .slice q n e], .string x, .string k] W (MoreC b r' wB C n (ns ++ [x]) (ts ++ [k])) :=
 (l91More_any (hsc W hx) hn x k hx60).mono fun _ w' ⟨p1, q1, c1, d1, he, hs, hbel⟩ =>
   have hp : Px b W w' := Px.below hbel (Nat.le_refl _)
   have hr2 : Rd w' b r' := hr.below hbel hr.lt (Nat.le_refl _)
   ⟨p1, q1, c1, d1, he, fun _ hx2 => hs.px hr2 hx2, hr2, hb.trans hp, hC W w' r' hr hp hc⟩
def Cl0 (B : Nat) (p q : Option Addr) (n c e : Nat) (W : World) : Prop := W.cell? ⟨B, 0, none⟩ = some (.slice p n c) ∧ W.cell? ⟨B, 1, none⟩ = some (.slice q n e)
def Cl1 (B : Nat) (p q : Option Addr) (n c e g o : Nat) (x : ByteArray) (W : World) : Prop := W.cell? ⟨B, 0, none⟩ = some (.slice p n c) ∧ W.cell? ⟨B, 1, none⟩ = some (.slice q n e) ∧ W.cell? ⟨g, o, none⟩ = some (.string x)
def Cl2 (B : Nat) (p q : Option Addr) (n c e g o : Nat) (x y : ByteArray) (W : World) : Prop := W.cell? ⟨B, 0, none⟩ = some (.slice p n c) ∧ W.cell? ⟨B, 1, none⟩ = some (.slice q n e) ∧ W.cell? ⟨g, o, none⟩ = some (.string x) ∧ W.cell? ⟨g, o + 1, none⟩ = some (.string y)
theorem Cl0.px {b B : Nat} (hB : B ≠ b) {p q : Option Addr} {n c e : Nat} (W W' : World) (r' : Nat) (_ : Rd W b r') (hp : Px b W W') (h : Cl0 B p q n c e W) : Cl0 B p q n c e W' := ⟨hp.cell hB h.1, hp.cell hB h.2⟩
theorem Cl1.px {b B : Nat} (hB : B ≠ b) {p q : Option Addr} {n c e g o : Nat} {x : ByteArray} (W W' : World) (r' : Nat) (hr : Rd W b r') (hp : Px b W W') (h : Cl1 B p q n c e g o x W) : Cl1 B p q n c e g o x W' := ⟨hp.cell hB h.1, hp.cell hB h.2.1, hp.cell (rd_ne1 hr h.2.2) h.2.2⟩
theorem Cl2.px {b B : Nat} (hB : B ≠ b) {p q : Option Addr} {n c e g o : Nat} {x y : ByteArray} (W W' : World) (r' : Nat) (hr : Rd W b r') (hp : Px b W W') (h : Cl2 B p q n c e g o x y W) : Cl2 B p q n c e g o x y W' := ⟨hp.cell hB h.1, hp.cell hB h.2.1, hp.cell (rd_ne1 hr h.2.2.1) h.2.2.1, hp.cell (rd_ne1 hr h.2.2.2) h.2.2.2⟩
theorem pxd (b : Nat) (W : World) : Px b W W.drew := Px.below (Below.refl W.heap.size W).drew (Nat.le_refl _)
theorem fsL_lit2 {w : World} {g : Nat} (h : w.heap.size = g) : SV (w.alloc (.cells #[.string ⟨#[102, 115, 116]⟩, .string ⟨#[115, 110, 100]⟩] 9)) (some ⟨g, 0, none⟩) 2 2 fsL := by subst h; exact fsL_lit w
def bitL : List ByteArray := [⟨#[48]⟩, ⟨#[49]⟩]
theorem bii (W : World) : SV (W.alloc (.cells #[.string ⟨#[48]⟩, .string ⟨#[49]⟩] 9)) (some ⟨W.heap.size, 0, none⟩) 2 2 bitL := sv_lit W bitL 2 2 9 rfl
theorem bil : ∀ s ∈ bitL, s.size ≤ 1 := by intro s hs; simp only [bitL, List.mem_cons, List.mem_nil_iff, or_false] at hs; rcases hs with rfl | rfl <;> decide
theorem mV_pair (d x y n : Nat) (h : x + y + 5 ≤ n) : mV d x + mV d y + 10 ≤ mV d n := by
 unfold mV
 have h1 : (6 * mA d + 60) * (x + 1) + (6 * mA d + 60) * (y + 1) = (6 * mA d + 60) * (x + y + 2) := by rw [← Nat.mul_add]; congr 1; omega
 have h2 : (6 * mA d + 60) * (x + y + 6) ≤ (6 * mA d + 60) * (n + 1) := Nat.mul_le_mul_left _ (by omega)
 have h3 : (6 * mA d + 60) * (x + y + 6) = (6 * mA d + 60) * (x + y + 2) + (6 * mA d + 60) * 4 := by rw [← Nat.mul_add]
 omega
theorem mV_thunk (d x n : Nat) (h : x + 4 ≤ n) : mC d x + 12 ≤ mV d n := by
 rw [mC_eq, mV_eq]
 have h2 : mA d * (x + 4) ≤ mA d * n := Nat.mul_le_mul_left _ h
 rw [Nat.mul_add] at h2
 omega
structure PtW (W : World) (B : Nat) (p q : Option Addr) (n c e g o : Nat) (x y : ByteArray) : Prop where
 c0 : W.cell? ⟨B, 0, none⟩ = some (.slice p n c)
 c1 : W.cell? ⟨B, 1, none⟩ = some (.slice q n e)
 k0 : W.cell? ⟨g, o, none⟩ = some (.string x)
 k1 : W.cell? ⟨g, o + 1, none⟩ = some (.string y)
theorem PtW.px {W W' : World} {B b r : Nat} {p q : Option Addr} {n c e g o : Nat} {x y : ByteArray} (h : PtW W B p q n c e g o x y) (hr : Rd W b r) (hB : B ≠ b) (hx : Px b W W') : PtW W' B p q n c e g o x y :=
 ⟨hx.cell hB h.c0, hx.cell hB h.c1, hx.cell (rd_ne1 hr h.k0) h.k0, hx.cell (rd_ne1 hr h.k1) h.k1⟩
theorem pxr (b : Nat) (W : World) : Px b W W.drew := Px.below (Below.refl W.heap.size W).drew (Nat.le_refl _)
def DrawnK (b r S : Nat) (W : World) (B : Nat) (p q : Option Addr) (n c e g o : Nat) (x y : ByteArray) (en : Ending) (w' : World) : Prop :=
 ∃ s : ByteArray, en = .returned (.string s) ∧ s.size ≤ S ∧ Rd w' b r ∧ Px b W w' ∧ PtW w' B p q n c e g o x y
theorem Drawn.keep {b r r0 S : Nat} {W w' : World} {en : Ending} (h : Drawn b r S W en w') {B : Nat} {p q : Option Addr} {n c e g o : Nat} {x y : ByteArray} (hb : PtW W B p q n c e g o x y) (hr : Rd W b r0) (hB : B ≠ b) : DrawnK b r S W B p q n c e g o x y en w' := by
 obtain ⟨s, he, hs, hr', hp⟩ := h
 exact ⟨s, he, hs, hr', hp, hb.px hr hB hp⟩
theorem small_snoc {l : List ByteArray} (h : ∀ s ∈ l, s.size ≤ 60) (x : ByteArray) (hx : x.size ≤ 60) : ∀ s ∈ l ++ [x], s.size ≤ 60 := by
 intro s hs
 rcases List.mem_append.1 hs with hs | hs
 ·exact h s hs
 ·simp at hs; subst hs; exact hx
theorem l91V_gen {b d : Nat} {f g : Nat → Nat} (hg0 : ∀ n, 60 ≤ g n ∧ n ≤ g n) (hgp : ∀ x y n, x + y + 5 ≤ n → g x + g y + 10 ≤ g n) (hgu : ∀ x n, x + 4 ≤ n → f x + 12 ≤ g n) {want : ByteArray} (hS : g want.size ≤ 400000000)
    (hM : ∀ k : Ty, readTy want = some (.thunk k) → Ter 83 b d k.text (f k.text.size))
    (hV : ∀ x y : Ty, readTy want = some (.pair x y) → Ter 114 b d x.text (g x.text.size) ∧ Ter 114 b d y.text (g y.text.size)) :
    Ter 114 b d want (g want.size) := by
 intro r w p q n c e ns ts j hsc hr hq hn6 hj
 subst hj
 have HS := hid hsc
 have HR := hid hr
 have hlt := hr.lt
 have hsn := hsc.n20
 have HN := hid hsc.a.1
 have HM := hid hsc.b.1
 have HVN := hid (sv_vals hsc.a)
 have HVT := hid (sv_vals hsc.b)
 have HL3 := hid (fun (s : ByteArray) (W : World) (hk : Kept w W) => l3Look_any s ns ts p q n c e W HN.out HM.out (by omega) (HVN.out.kept hk) (HVT.out.kept hk))
 have hzb : (w.alloc (.cells #[.slice p n c, .slice q n e] 114)).heap.size = w.heap.size + 1 := by simp
 have HO0 := own_empty (w.alloc (.cells #[.slice p n c, .slice q n e] 114)) (w.heap.size + 1) (by rw [hzb]; exact Nat.le_refl _)
 rw [hzb] at HO0
 have HO0 := hid HO0
 have HCB := hid (cel (hea w (.cells #[.slice p n c, .slice q n e] 114) _ rfl))
 have HKB := hid (show Kept w (w.alloc (.cells #[.slice p n c, .slice q n e] 114)) from (Kept.refl w).alloc (Nat.le_refl _) _)
 have hwz : want.size ≤ 400000000 := Nat.le_trans (hg0 want.size).2 hS
 have HG0 := hid (hg0 want.size)
 obtain ⟨G, hG⟩ : ∃ G, g want.size = G := ⟨_, rfl⟩
 have HGE := hid hG
 rw [hG] at HG0 hq ⊢
 have HMH := hid hM
 have HVH := hid hV
 have HGP := hid hgp
 have HGU := hid hgu
 have HPX := hid (fun (W : World) (hx : Px b (w.alloc (.cells #[.slice p n c, .slice q n e] 114)) W) => (show Px b w W from ((Px.refl b w).alloc _).trans hx))
 clear hsc hr hG hM hV hS hg0 hgp hgu
 go_enter Tryz.func114, Tryz.ntmps114
 go_wp2_with fail
 go_loopw [9, 10] (fun v u wr => ∃ (i m k : Nat) (z : Option Addr) (fl : List ByteArray), i ≤ n ∧ u = .int .i64 (i : Int) ∧ v = .slice z m k ∧ fl.length = m ∧ m ≤ i ∧ Hid (wr.ownsRow (w.heap.size + 1) 9 1 (.slice z m k) m (fl.map Value.string)) ∧ Hid (∀ s ∈ fl, s.size ≤ 60) ∧ Hid (Below (w.heap.size + 1) (w.alloc (.cells #[.slice p n c, .slice q n e] 114)) wr)) (fun _ u _ => n - (intOf u).toNat)
 case atStart => exact ⟨0, 0, 0, some ⟨w.heap.size + 1, 0, none⟩, [], Nat.zero_le _, rfl, rfl, rfl, Nat.le_refl _, HO0, hid (fun s h => by cases h), hid ((Below.refl _ _).alloc (by simp) _)⟩
 case round =>
  obtain ⟨i, m, k, z, fl, hi, rfl, rfl, hfl, hmi, hown, hsm, hbel⟩ := hrel
  have hz := hbel.out.size
  have hkw := HKB.out.below hbel.out (by omega)
  have cb0 := (hbel.out.cell (p := ⟨w.heap.size, 0, none⟩) (by show w.heap.size < _; omega)).trans HCB.out.1
  have cb1 := (hbel.out.cell (p := ⟨w.heap.size, 1, none⟩) (by show w.heap.size < _; omega)).trans HCB.out.2.1
  have HKW := hid hkw
  by_cases hlt2 : i < n
  ·obtain ⟨x, hx⟩ : ∃ x, ns[i]? = some x := ⟨_, List.getElem?_eq_getElem (by rw [HN.out]; exact hlt2)⟩
   obtain ⟨b2, o2, hbo, hcz⟩ := HVN.out i (.string x) (by rw [List.getElem?_map, hx]; rfl)
   subst hbo
   have hcc := hkw.cell hcz
   have HC := hid (HL3.out x)
   have hx60 := HS.out.na x (List.mem_of_getElem? hx)
   have d1 : (i : Int) < (n : Int) := by omega
   obtain ⟨R, hR⟩ : ∃ R, l3 x.toList ns ts n = R := ⟨_, rfl⟩
   rw [hR] at HC
   have HCq := hid (fun (m : Nat) => (HC.out (wr.drewN m) (HKW.out.below (below_drewN (Below.refl wr.heap.size wr) m) (Nat.le_trans (by simp) hz))).mono fun e w' h => (show e = .returned (.string R) ∧ w' = wr.drewN m from ⟨h.1, h.2.symm⟩))
   clear hcz hx hR hkw
   go_wp2_with fail
   go_quiet ((go_at_call 59; exact Calls.quiet_of_same (HCq.out _)))
   obtain ⟨i0, hi0, hz0, hz1, hz2⟩ := info_parts Tryz.infoStr
   have hi20 : i ≤ 20 := by omega
   have hqb : ∀ mm, Below wr.heap.size wr (wr.drewN mm) := fun mm => below_drewN (Below.refl wr.heap.size wr) mm
   have HQB := hid hqb
   have hmz : wr.heap.size = wr.heap.size := rfl
   clear hqb hmz
   cases hb : R.toList == want.toList with
   | false =>
    go_wp2_with fail
    go_roundw
    case rel => exact ⟨i + 1, m, k, z, fl, by omega, by go_num, rfl, hfl, by omega, hid (ows hown.out (HQB.out _)), hsm, hid (hbel.out.trans ((HQB.out _).mono (by omega)))⟩
    case measure => simp [intOf]; omega
   | true =>
    go_wp2_with (at_builtin; refine wpl _ rfl (.tmp 33) (.tmp 39) 22 rfl (w.heap.size + 1) 9 i0 (.string ByteArray.empty) 1 16 Tryz.underlying22 hi0 hz0 hz1 hz2 rfl (by decide) (.slice z m k) m _ rfl ((ows hown.out (HQB.out _)).alloc _) ⟨wr.heap.size, 0, none⟩ 1 1 [.string x] rfl rfl (cen _ _ _ _ rfl) (by intro u hu; simp at hu; subst hu; rfl) (by decide) (by unfold maxLen; omega) (by omega) (by have := HQB.out 0; simp; omega) ?_; intro v' w8 hown8 hg8 hw8 hv8; obtain ⟨g8, kc8, rfl⟩ := hv8; have HG := hid hg8; have HO := hid hown8; clear hg8 hown8 hw8)
    go_roundw
    case rel =>
     refine ⟨i + 1, m + 1, kc8, some ⟨g8, 0, none⟩, fl ++ [x], by omega, by go_num, rfl, by simp [hfl], by omega, hid (by rw [List.map_append]; exact HO.out), hid (small_snoc hsm.out x hx60), ?_⟩
     have hlo := hown.out.lt
     exact hid (((hbel.out.trans ((HQB.out _).mono (by omega))).alloc (by simp; omega) _).grown HG.out (by simp; omega) (fun k e => by have := (hlo k e).1; omega))
    case measure => simp [intOf]; omega
  ·have hin : i = n := by omega
   subst hin
   have HX1 := hid (show Px b (w.alloc (.cells #[.slice p i c, .slice q i e] 114)) wr from Px.below hbel.out (by omega))
   have HR1 := hid ((HR.out.alloc _).below hbel.out (by omega) (by omega))
   have SB0 := hid cb0
   have SB1 := hid cb1
   have HSC := hid (fun (W : World) (hx : Px b wr W) => (HS.out.px HR.out (HPX.out _ (HX1.out.trans hx))))
   have HFV := hid (vals_any hown.out)
   have HOB := hid hown.out.lt
   clear hbel hkw HKW HKB HCB HO0 HL3 HVN HVT hzb hz
   by_cases hm0 : m = 0
   ·subst hm0
    have HX3 := hid (Px.refl b wr)
    have HR3 := HR1
    cases hrd : readTy want with
    | none =>
     have HKD := hid (fun W => (spc want hwz W).mono fun e w' h => lwk h)
     have HHD := hid (fun W => spe want hwz W)
     rw [hrd] at HKD HHD
     have HKD2 := hid (fun W => (show Calls Tryz.prog 117 #[.string want] W (KdPost [] 0 false W) from HKD.out W))
     have HHD2 := hid (fun W => (show Calls Tryz.prog 103 #[.string want] W fun e w' => e = .returned (.string (ByteArray.empty)) ∧ Below W.heap.size W w' from HHD.out W))
     clear HKD HHD hrd
     go_wp2_with fail
     go_at_call 117
     refine (HKD2.out _).mono ?_
     rintro e w4 ⟨q4, d4, rfl, hv4, hu4, hb4⟩
     have HR4 := hid (HR3.out.below hb4 HR3.out.lt (Nat.le_refl _))
     have HX4 := hid (HX3.out.trans (Px.below hb4 (Nat.le_refl _)))
     clear hv4 hu4 hb4
     go_wp2_with fail
     go_at_call 103
     refine (HHD2.out _).mono ?_
     rintro e w5 ⟨rfl, hb5⟩
     have hp5 : Px b w4 w5 := Px.below hb5 (Nat.le_refl _)
     have HR5 := hid (HR4.out.below hb5 HR4.out.lt (Nat.le_refl _))
     have HX5 := hid (HX4.out.trans hp5)
     clear hb5 hp5
     have sc0_5 := HX5.out.cell (b := b) (by show w.heap.size ≠ b; omega) SB0.out
     have sc1_5 := HX5.out.cell (b := b) (by show w.heap.size ≠ b; omega) SB1.out
     go_wp2_with fail
     go_at_call 40
     refine (rof (HR5.out.alloc _) (by omega) w5.heap.size 2 2 1 bitL (bii w5) (by omega) (by omega) (by have := HR5.out.lt; omega) bil).mono ?_
     rintro e w6 ⟨s6, rfl, hs6, hr6, hp6⟩
     have HR6 := hid hr6
     have HX6 := hid ((HX5.out.alloc _).trans hp6)
     have HS6 := hid hs6
     clear hr6 hp6 hs6
     go_wp2_with fail
     go_ret
     exact ⟨_, rfl, by have := HS6.out; have := HG0.out; omega, HR6.out.le (by have := HG0.out; omega), HPX.out _ (HX1.out.trans HX6.out)⟩
    | some ty =>
     cases ty with
     | bit =>
      have HKD := hid (fun W => (spc want hwz W).mono fun e w' h => lwk h)
      have HHD := hid (fun W => spe want hwz W)
      rw [hrd] at HKD HHD
      have HKD2 := hid (fun W => (show Calls Tryz.prog 117 #[.string want] W (KdPost [] 0 true W) from HKD.out W))
      have HHD2 := hid (fun W => (show Calls Tryz.prog 103 #[.string want] W fun e w' => e = .returned (.string (({ data := #[98] } : ByteArray))) ∧ Below W.heap.size W w' from HHD.out W))
      clear HKD HHD hrd
      go_wp2_with fail
      go_at_call 117
      refine (HKD2.out _).mono ?_
      rintro e w4 ⟨q4, d4, rfl, hv4, hu4, hb4⟩
      have HR4 := hid (HR3.out.below hb4 HR3.out.lt (Nat.le_refl _))
      have HX4 := hid (HX3.out.trans (Px.below hb4 (Nat.le_refl _)))
      clear hv4 hu4 hb4
      go_wp2_with fail
      go_at_call 103
      refine (HHD2.out _).mono ?_
      rintro e w5 ⟨rfl, hb5⟩
      have hp5 : Px b w4 w5 := Px.below hb5 (Nat.le_refl _)
      have HR5 := hid (HR4.out.below hb5 HR4.out.lt (Nat.le_refl _))
      have HX5 := hid (HX4.out.trans hp5)
      clear hb5 hp5
      have sc0_5 := HX5.out.cell (b := b) (by show w.heap.size ≠ b; omega) SB0.out
      have sc1_5 := HX5.out.cell (b := b) (by show w.heap.size ≠ b; omega) SB1.out
      go_wp2_with fail
      go_at_call 40
      refine (rof (HR5.out.alloc _) (by omega) w5.heap.size 2 2 1 bitL (bii w5) (by omega) (by omega) (by have := HR5.out.lt; omega) bil).mono ?_
      rintro e w6 ⟨s6, rfl, hs6, hr6, hp6⟩
      have HR6 := hid hr6
      have HX6 := hid ((HX5.out.alloc _).trans hp6)
      have HS6 := hid hs6
      clear hr6 hp6 hs6
      go_wp2_with fail
      go_ret
      exact ⟨_, rfl, by have := HS6.out; have := HG0.out; omega, HR6.out.le (by have := HG0.out; omega), HPX.out _ (HX1.out.trans HX6.out)⟩
     | ret x =>
      have HKD := hid (fun W => (spc want hwz W).mono fun e w' h => lwk h)
      have HHD := hid (fun W => spe want hwz W)
      rw [hrd] at HKD HHD
      have HKD2 := hid (fun W => (show Calls Tryz.prog 117 #[.string want] W (KdPost [x] 1 true W) from HKD.out W))
      have HHD2 := hid (fun W => (show Calls Tryz.prog 103 #[.string want] W fun e w' => e = .returned (.string (({ data := #[102] } : ByteArray))) ∧ Below W.heap.size W w' from HHD.out W))
      clear HKD HHD hrd
      go_wp2_with fail
      go_at_call 117
      refine (HKD2.out _).mono ?_
      rintro e w4 ⟨q4, d4, rfl, hv4, hu4, hb4⟩
      have HR4 := hid (HR3.out.below hb4 HR3.out.lt (Nat.le_refl _))
      have HX4 := hid (HX3.out.trans (Px.below hb4 (Nat.le_refl _)))
      clear hv4 hu4 hb4
      go_wp2_with fail
      go_at_call 103
      refine (HHD2.out _).mono ?_
      rintro e w5 ⟨rfl, hb5⟩
      have hp5 : Px b w4 w5 := Px.below hb5 (Nat.le_refl _)
      have HR5 := hid (HR4.out.below hb5 HR4.out.lt (Nat.le_refl _))
      have HX5 := hid (HX4.out.trans hp5)
      clear hb5 hp5
      have sc0_5 := HX5.out.cell (b := b) (by show w.heap.size ≠ b; omega) SB0.out
      have sc1_5 := HX5.out.cell (b := b) (by show w.heap.size ≠ b; omega) SB1.out
      go_wp2_with fail
      go_at_call 40
      refine (rof (HR5.out.alloc _) (by omega) w5.heap.size 2 2 1 bitL (bii w5) (by omega) (by omega) (by have := HR5.out.lt; omega) bil).mono ?_
      rintro e w6 ⟨s6, rfl, hs6, hr6, hp6⟩
      have HR6 := hid hr6
      have HX6 := hid ((HX5.out.alloc _).trans hp6)
      have HS6 := hid hs6
      clear hr6 hp6 hs6
      go_wp2_with fail
      go_ret
      exact ⟨_, rfl, by have := HS6.out; have := HG0.out; omega, HR6.out.le (by have := HG0.out; omega), HPX.out _ (HX1.out.trans HX6.out)⟩
     | fn x y =>
      have HKD := hid (fun W => (spc want hwz W).mono fun e w' h => lwk h)
      have HHD := hid (fun W => spe want hwz W)
      rw [hrd] at HKD HHD
      have HKD2 := hid (fun W => (show Calls Tryz.prog 117 #[.string want] W (KdPost [x, y] 2 true W) from HKD.out W))
      have HHD2 := hid (fun W => (show Calls Tryz.prog 103 #[.string want] W fun e w' => e = .returned (.string (({ data := #[62] } : ByteArray))) ∧ Below W.heap.size W w' from HHD.out W))
      clear HKD HHD hrd
      go_wp2_with fail
      go_at_call 117
      refine (HKD2.out _).mono ?_
      rintro e w4 ⟨q4, d4, rfl, hv4, hu4, hb4⟩
      have HR4 := hid (HR3.out.below hb4 HR3.out.lt (Nat.le_refl _))
      have HX4 := hid (HX3.out.trans (Px.below hb4 (Nat.le_refl _)))
      clear hv4 hu4 hb4
      go_wp2_with fail
      go_at_call 103
      refine (HHD2.out _).mono ?_
      rintro e w5 ⟨rfl, hb5⟩
      have hp5 : Px b w4 w5 := Px.below hb5 (Nat.le_refl _)
      have HR5 := hid (HR4.out.below hb5 HR4.out.lt (Nat.le_refl _))
      have HX5 := hid (HX4.out.trans hp5)
      clear hb5 hp5
      have sc0_5 := HX5.out.cell (b := b) (by show w.heap.size ≠ b; omega) SB0.out
      have sc1_5 := HX5.out.cell (b := b) (by show w.heap.size ≠ b; omega) SB1.out
      go_wp2_with fail
      go_at_call 40
      refine (rof (HR5.out.alloc _) (by omega) w5.heap.size 2 2 1 bitL (bii w5) (by omega) (by omega) (by have := HR5.out.lt; omega) bil).mono ?_
      rintro e w6 ⟨s6, rfl, hs6, hr6, hp6⟩
      have HR6 := hid hr6
      have HX6 := hid ((HX5.out.alloc _).trans hp6)
      have HS6 := hid hs6
      clear hr6 hp6 hs6
      go_wp2_with fail
      go_ret
      exact ⟨_, rfl, by have := HS6.out; have := HG0.out; omega, HR6.out.le (by have := HG0.out; omega), HPX.out _ (HX1.out.trans HX6.out)⟩
     | choice x y =>
      have HKD := hid (fun W => (spc want hwz W).mono fun e w' h => lwk h)
      have HHD := hid (fun W => spe want hwz W)
      rw [hrd] at HKD HHD
      have HKD2 := hid (fun W => (show Calls Tryz.prog 117 #[.string want] W (KdPost [x, y] 2 true W) from HKD.out W))
      have HHD2 := hid (fun W => (show Calls Tryz.prog 103 #[.string want] W fun e w' => e = .returned (.string (({ data := #[38] } : ByteArray))) ∧ Below W.heap.size W w' from HHD.out W))
      clear HKD HHD hrd
      go_wp2_with fail
      go_at_call 117
      refine (HKD2.out _).mono ?_
      rintro e w4 ⟨q4, d4, rfl, hv4, hu4, hb4⟩
      have HR4 := hid (HR3.out.below hb4 HR3.out.lt (Nat.le_refl _))
      have HX4 := hid (HX3.out.trans (Px.below hb4 (Nat.le_refl _)))
      clear hv4 hu4 hb4
      go_wp2_with fail
      go_at_call 103
      refine (HHD2.out _).mono ?_
      rintro e w5 ⟨rfl, hb5⟩
      have hp5 : Px b w4 w5 := Px.below hb5 (Nat.le_refl _)
      have HR5 := hid (HR4.out.below hb5 HR4.out.lt (Nat.le_refl _))
      have HX5 := hid (HX4.out.trans hp5)
      clear hb5 hp5
      have sc0_5 := HX5.out.cell (b := b) (by show w.heap.size ≠ b; omega) SB0.out
      have sc1_5 := HX5.out.cell (b := b) (by show w.heap.size ≠ b; omega) SB1.out
      go_wp2_with fail
      go_at_call 40
      refine (rof (HR5.out.alloc _) (by omega) w5.heap.size 2 2 1 bitL (bii w5) (by omega) (by omega) (by have := HR5.out.lt; omega) bil).mono ?_
      rintro e w6 ⟨s6, rfl, hs6, hr6, hp6⟩
      have HR6 := hid hr6
      have HX6 := hid ((HX5.out.alloc _).trans hp6)
      have HS6 := hid hs6
      clear hr6 hp6 hs6
      go_wp2_with fail
      go_ret
      exact ⟨_, rfl, by have := HS6.out; have := HG0.out; omega, HR6.out.le (by have := HG0.out; omega), HPX.out _ (HX1.out.trans HX6.out)⟩
     | pair x y =>
      have HXY := hid (HVH.out x y hrd)
      have hgg := HGP.out x.text.size y.text.size want.size (by rw [lwt hrd, tx_pair]; omega)
      rw [HGE.out] at hgg
      have HKD := hid (fun W => (spc want hwz W).mono fun e w' h => lwk h)
      have HHD := hid (fun W => spe want hwz W)
      rw [hrd] at HKD HHD
      have HKD2 := hid (fun W => (show Calls Tryz.prog 117 #[.string want] W (KdPost [x, y] 2 true W) from HKD.out W))
      have HHD2 := hid (fun W => (show Calls Tryz.prog 103 #[.string want] W fun e w' => e = .returned (.string (({ data := #[42] } : ByteArray))) ∧ Below W.heap.size W w' from HHD.out W))
      clear HKD HHD hrd
      go_wp2_with fail
      go_at_call 117
      refine (HKD2.out _).mono ?_
      rintro e w4 ⟨q4, d4, rfl, hv4, hu4, hb4⟩
      obtain ⟨g0, o0, hbo, hc0_4⟩ := hv4 0 (.string x.text) rfl
      subst hbo
      have hc0_4 : w4.cell? ⟨g0, o0, none⟩ = some (.string x.text) := hc0_4
      obtain ⟨g1, o1, hbo1, hc1_4⟩ := hv4 1 (.string y.text) rfl
      obtain ⟨rfl, rfl⟩ : g0 = g1 ∧ o0 = o1 := by simpa using hbo1
      clear hbo1
      have HR4 := hid (HR3.out.below hb4 HR3.out.lt (Nat.le_refl _))
      have HX4 := hid (HX3.out.trans (Px.below hb4 (Nat.le_refl _)))
      clear hv4 hu4 hb4
      go_wp2_with fail
      go_at_call 103
      refine (HHD2.out _).mono ?_
      rintro e w5 ⟨rfl, hb5⟩
      have hp5 : Px b w4 w5 := Px.below hb5 (Nat.le_refl _)
      have hc0_5 := hp5.cell (rd_ne1 HR4.out hc0_4) hc0_4
      have hc1_5 := hp5.cell (rd_ne1 HR4.out hc1_4) hc1_4
      have HR5 := hid (HR4.out.below hb5 HR4.out.lt (Nat.le_refl _))
      have HX5 := hid (HX4.out.trans hp5)
      clear hb5 hp5
      have sc0_5 := HX5.out.cell (b := b) (by show w.heap.size ≠ b; omega) SB0.out
      have sc1_5 := HX5.out.cell (b := b) (by show w.heap.size ≠ b; omega) SB1.out
      have HB5 := hid (show PtW w5 w.heap.size p q i c e g0 o0 x.text y.text from ⟨sc0_5, sc1_5, hc0_5, hc1_5⟩)
      have HNE := hid (show w.heap.size ≠ b by omega)
      have HB5d := hid (HB5.out.px HR5.out HNE.out (pxr b w5))
      have HR5d := hid HR5.out.drew
      have HX5d := hid (HX5.out.trans (pxr b w5))
      have HC1 := hid (fun W r' (hr : Rd W b r') (hx : Px b wr W) (hl : r' + g x.text.size ≤ 400000000) (hb : PtW W w.heap.size p q i c e g0 o0 x.text y.text) => (HXY.out.1 r' W p q i c e ns ts (d : Int) (HSC.out W hx) hr hl hn6 rfl).mono fun en w' h => (show DrawnK b (r' + g x.text.size) (g x.text.size) W w.heap.size p q i c e g0 o0 x.text y.text en w' from h.keep hb hr HNE.out))
      have HC2 := hid (fun W r' (hr : Rd W b r') (hx : Px b wr W) (hl : r' + g y.text.size ≤ 400000000) (hb : PtW W w.heap.size p q i c e g0 o0 x.text y.text) => (HXY.out.2 r' W p q i c e ns ts (d : Int) (HSC.out W hx) hr hl hn6 rfl).mono fun en w' h => (show DrawnK b (r' + g y.text.size) (g y.text.size) W w.heap.size p q i c e g0 o0 x.text y.text en w' from h.keep hb hr HNE.out))
      obtain ⟨GX, hGX⟩ : ∃ GX, g x.text.size = GX := ⟨_, rfl⟩
      obtain ⟨GY, hGY⟩ : ∃ GY, g y.text.size = GY := ⟨_, rfl⟩
      rw [hGX] at HC1 hgg
      rw [hGY] at HC2 hgg
      clear hGX hGY
      go_wp2_with fail
      go_region_held3 (fun w' => w'.cell? ⟨w.heap.size, 0, none⟩ = some (.slice p i c) ∧ w'.cell? ⟨w.heap.size, 1, none⟩ = some (.slice q i e) ∧ w'.cell? ⟨g0, o0, none⟩ = some (.string x.text) ∧ w'.cell? ⟨g0, o0 + 1, none⟩ = some (.string y.text))
       (first | exact ⟨HB5d.out.c0, HB5d.out.c1, HB5d.out.k0, HB5d.out.k1⟩ | exact ⟨HB6.out.c0, HB6.out.c1, HB6.out.k0, HB6.out.k1⟩ | exact ⟨HB7.out.c0, HB7.out.c1, HB7.out.k0, HB7.out.k1⟩)
       (first
         | (have _ := HR6
            go_at_call 114
            refine (HC2.out _ _ HR6.out HX6.out (by omega) HB6.out).mono ?_
            rintro e w7 ⟨s7, rfl, hs7, hr7, hp7, hb7⟩
            have hz7 : s7.size ≤ 400000000 := by omega
            have ta7 : ¬ 9223372036854775807 < 6 + s6.size + 1 + s7.size := by omega
            have tb7 : ¬ 9223372036854775807 < 6 + s6.size + 1 + s7.size + 1 := by omega
            have HR7 := hid hr7
            have HX7 := hid (HX6.out.trans hp7)
            have HS7 := hid hs7
            have HB7 := hid hb7
            clear hr7 hp7 hs7 hb7)
         | (go_at_call 114
            refine (HC1.out _ _ HR5d.out HX5d.out (by omega) HB5d.out).mono ?_
            rintro e w6 ⟨s6, rfl, hs6, hr6, hp6, hb6⟩
            have hz6 : s6.size ≤ 400000000 := by omega
            have ta6 : ¬ 9223372036854775807 < 6 + s6.size := by omega
            have tb6 : ¬ 9223372036854775807 < 6 + s6.size + 1 := by omega
            have HR6 := hid hr6
            have HX6 := hid (HX5d.out.trans hp6)
            have HS6 := hid hs6
            have HB6 := hid hb6
            clear hr6 hp6 hs6 hb6))
      all_goals
       go_wp2_with fail
       go_ret
       refine ⟨_, rfl, ?_, HR7.out.le (by omega), HPX.out _ (HX1.out.trans HX7.out)⟩
       have := HS6.out
       have := HS7.out
       simp only [ByteArray.size_append, bsz]; simp; omega
     | thunk x =>
      have HXT := hid (HMH.out x hrd)
      have hgg := HGU.out x.text.size want.size (by rw [lwt hrd, tx_thunk]; omega)
      rw [HGE.out] at hgg
      have HKD := hid (fun W => (spc want hwz W).mono fun e w' h => lwk h)
      have HHD := hid (fun W => spe want hwz W)
      rw [hrd] at HKD HHD
      have HKD2 := hid (fun W => (show Calls Tryz.prog 117 #[.string want] W (KdPost [x] 1 true W) from HKD.out W))
      have HHD2 := hid (fun W => (show Calls Tryz.prog 103 #[.string want] W fun e w' => e = .returned (.string (({ data := #[117] } : ByteArray))) ∧ Below W.heap.size W w' from HHD.out W))
      clear HKD HHD hrd
      go_wp2_with fail
      go_at_call 117
      refine (HKD2.out _).mono ?_
      rintro e w4 ⟨q4, d4, rfl, hv4, hu4, hb4⟩
      obtain ⟨g0, o0, hbo, hc0_4⟩ := hv4 0 (.string x.text) rfl
      subst hbo
      have hc0_4 : w4.cell? ⟨g0, o0, none⟩ = some (.string x.text) := hc0_4
      have HR4 := hid (HR3.out.below hb4 HR3.out.lt (Nat.le_refl _))
      have HX4 := hid (HX3.out.trans (Px.below hb4 (Nat.le_refl _)))
      clear hv4 hu4 hb4
      go_wp2_with fail
      go_at_call 103
      refine (HHD2.out _).mono ?_
      rintro e w5 ⟨rfl, hb5⟩
      have hp5 : Px b w4 w5 := Px.below hb5 (Nat.le_refl _)
      have hc0_5 := hp5.cell (rd_ne1 HR4.out hc0_4) hc0_4
      have HR5 := hid (HR4.out.below hb5 HR4.out.lt (Nat.le_refl _))
      have HX5 := hid (HX4.out.trans hp5)
      clear hb5 hp5
      have sc0_5 := HX5.out.cell (b := b) (by show w.heap.size ≠ b; omega) SB0.out
      have sc1_5 := HX5.out.cell (b := b) (by show w.heap.size ≠ b; omega) SB1.out
      have HNE := hid (show w.heap.size ≠ b by omega)
      have d50 := (pxr b w5).cell HNE.out sc0_5
      have d51 := (pxr b w5).cell HNE.out sc1_5
      have d52 := (pxr b w5).cell (rd_ne1 HR5.out hc0_5) hc0_5
      have HKC := hid (And.intro d50 (And.intro d51 d52))
      have HR5d := hid HR5.out.drew
      have HX5d := hid (HX5.out.trans (pxr b w5))
      have HC1 := hid (fun W r' (hr : Rd W b r') (hx : Px b wr W) (hl : r' + f x.text.size ≤ 400000000) (hb : W.cell? ⟨w.heap.size, 0, none⟩ = some (.slice p i c) ∧ W.cell? ⟨w.heap.size, 1, none⟩ = some (.slice q i e) ∧ W.cell? ⟨g0, o0, none⟩ = some (.string x.text)) => (HXT.out r' W p q i c e ns ts (d : Int) (HSC.out W hx) hr hl hn6 rfl).mono fun en w' h => (show (∃ s : ByteArray, en = .returned (.string s) ∧ s.size ≤ f x.text.size ∧ Rd w' b (r' + f x.text.size) ∧ Px b W w' ∧ (w'.cell? ⟨w.heap.size, 0, none⟩ = some (.slice p i c) ∧ w'.cell? ⟨w.heap.size, 1, none⟩ = some (.slice q i e) ∧ w'.cell? ⟨g0, o0, none⟩ = some (.string x.text))) from by
       obtain ⟨s, he, hs, hr', hp⟩ := h
       exact ⟨s, he, hs, hr', hp, hp.cell HNE.out hb.1, hp.cell HNE.out hb.2.1, hp.cell (rd_ne1 hr hb.2.2) hb.2.2⟩))
      obtain ⟨GX, hGX⟩ : ∃ GX, f x.text.size = GX := ⟨_, rfl⟩
      rw [hGX] at HC1 hgg
      clear hGX d50 d51 d52
      go_wp2_with fail
      go_region_held3 (fun w' => w'.cell? ⟨w.heap.size, 0, none⟩ = some (.slice p i c) ∧ w'.cell? ⟨w.heap.size, 1, none⟩ = some (.slice q i e) ∧ w'.cell? ⟨g0, o0, none⟩ = some (.string x.text))
       (first | exact HKC.out | exact HK6.out)
       (first
         | (go_at_call 83
            refine (HC1.out _ _ HR5d.out HX5d.out (by omega) HKC.out).mono ?_
            rintro e w6 ⟨s6, rfl, hs6, hr6, hp6, hk6⟩
            have hz6 : s6.size ≤ 400000000 := by omega
            have ta6 : ¬ 9223372036854775807 < 7 + s6.size := by omega
            have tb6 : ¬ 9223372036854775807 < 7 + s6.size + 1 := by omega
            have HR6 := hid hr6
            have HX6 := hid (HX5d.out.trans hp6)
            have HS6 := hid hs6
            have HK6 := hid hk6
            clear hr6 hp6 hs6 hk6))
      all_goals
       go_wp2_with fail
       go_ret
       refine ⟨_, rfl, ?_, HR6.out.le (by omega), HPX.out _ (HX1.out.trans HX6.out)⟩
       have := HS6.out
       simp only [ByteArray.size_append, bsz]; simp; omega
   ·have hm1 : (0 : Int) < (m : Int) := by omega
    have hm2 : m ≤ 20 := by omega
    go_wp2_with fail
    go_at_call 41
    refine (pic HR1.out (by omega) 3 (by omega)).mono ?_
    rintro e w3 ⟨x3, rfl, hx3a, hx3b, _, hr3, hp3⟩
    have hx3c : x3 < 3 := hx3b (by decide)
    by_cases hx0 : x3 = 0
    ·subst hx0
     have HR3 := hid hr3
     have HX3 := hid hp3
     clear hr3 hp3 hx3b
     cases hrd : readTy want with
     | none =>
      have HKD := hid (fun W => (spc want hwz W).mono fun e w' h => lwk h)
      have HHD := hid (fun W => spe want hwz W)
      rw [hrd] at HKD HHD
      have HKD2 := hid (fun W => (show Calls Tryz.prog 117 #[.string want] W (KdPost [] 0 false W) from HKD.out W))
      have HHD2 := hid (fun W => (show Calls Tryz.prog 103 #[.string want] W fun e w' => e = .returned (.string (ByteArray.empty)) ∧ Below W.heap.size W w' from HHD.out W))
      clear HKD HHD hrd
      go_wp2_with fail
      go_at_call 117
      refine (HKD2.out _).mono ?_
      rintro e w4 ⟨q4, d4, rfl, hv4, hu4, hb4⟩
      have HR4 := hid (HR3.out.below hb4 HR3.out.lt (Nat.le_refl _))
      have HX4 := hid (HX3.out.trans (Px.below hb4 (Nat.le_refl _)))
      clear hv4 hu4 hb4
      go_wp2_with fail
      go_at_call 103
      refine (HHD2.out _).mono ?_
      rintro e w5 ⟨rfl, hb5⟩
      have hp5 : Px b w4 w5 := Px.below hb5 (Nat.le_refl _)
      have HR5 := hid (HR4.out.below hb5 HR4.out.lt (Nat.le_refl _))
      have HX5 := hid (HX4.out.trans hp5)
      clear hb5 hp5
      have sc0_5 := HX5.out.cell (b := b) (by show w.heap.size ≠ b; omega) SB0.out
      have sc1_5 := HX5.out.cell (b := b) (by show w.heap.size ≠ b; omega) SB1.out
      go_wp2_with fail
      go_at_call 40
      refine (rof (HR5.out.alloc _) (by omega) w5.heap.size 2 2 1 bitL (bii w5) (by omega) (by omega) (by have := HR5.out.lt; omega) bil).mono ?_
      rintro e w6 ⟨s6, rfl, hs6, hr6, hp6⟩
      have HR6 := hid hr6
      have HX6 := hid ((HX5.out.alloc _).trans hp6)
      have HS6 := hid hs6
      clear hr6 hp6 hs6
      go_wp2_with fail
      go_ret
      exact ⟨_, rfl, by have := HS6.out; have := HG0.out; omega, HR6.out.le (by have := HG0.out; omega), HPX.out _ (HX1.out.trans HX6.out)⟩
     | some ty =>
      cases ty with
      | bit =>
       have HKD := hid (fun W => (spc want hwz W).mono fun e w' h => lwk h)
       have HHD := hid (fun W => spe want hwz W)
       rw [hrd] at HKD HHD
       have HKD2 := hid (fun W => (show Calls Tryz.prog 117 #[.string want] W (KdPost [] 0 true W) from HKD.out W))
       have HHD2 := hid (fun W => (show Calls Tryz.prog 103 #[.string want] W fun e w' => e = .returned (.string (({ data := #[98] } : ByteArray))) ∧ Below W.heap.size W w' from HHD.out W))
       clear HKD HHD hrd
       go_wp2_with fail
       go_at_call 117
       refine (HKD2.out _).mono ?_
       rintro e w4 ⟨q4, d4, rfl, hv4, hu4, hb4⟩
       have HR4 := hid (HR3.out.below hb4 HR3.out.lt (Nat.le_refl _))
       have HX4 := hid (HX3.out.trans (Px.below hb4 (Nat.le_refl _)))
       clear hv4 hu4 hb4
       go_wp2_with fail
       go_at_call 103
       refine (HHD2.out _).mono ?_
       rintro e w5 ⟨rfl, hb5⟩
       have hp5 : Px b w4 w5 := Px.below hb5 (Nat.le_refl _)
       have HR5 := hid (HR4.out.below hb5 HR4.out.lt (Nat.le_refl _))
       have HX5 := hid (HX4.out.trans hp5)
       clear hb5 hp5
       have sc0_5 := HX5.out.cell (b := b) (by show w.heap.size ≠ b; omega) SB0.out
       have sc1_5 := HX5.out.cell (b := b) (by show w.heap.size ≠ b; omega) SB1.out
       go_wp2_with fail
       go_at_call 40
       refine (rof (HR5.out.alloc _) (by omega) w5.heap.size 2 2 1 bitL (bii w5) (by omega) (by omega) (by have := HR5.out.lt; omega) bil).mono ?_
       rintro e w6 ⟨s6, rfl, hs6, hr6, hp6⟩
       have HR6 := hid hr6
       have HX6 := hid ((HX5.out.alloc _).trans hp6)
       have HS6 := hid hs6
       clear hr6 hp6 hs6
       go_wp2_with fail
       go_ret
       exact ⟨_, rfl, by have := HS6.out; have := HG0.out; omega, HR6.out.le (by have := HG0.out; omega), HPX.out _ (HX1.out.trans HX6.out)⟩
      | ret x =>
       have HKD := hid (fun W => (spc want hwz W).mono fun e w' h => lwk h)
       have HHD := hid (fun W => spe want hwz W)
       rw [hrd] at HKD HHD
       have HKD2 := hid (fun W => (show Calls Tryz.prog 117 #[.string want] W (KdPost [x] 1 true W) from HKD.out W))
       have HHD2 := hid (fun W => (show Calls Tryz.prog 103 #[.string want] W fun e w' => e = .returned (.string (({ data := #[102] } : ByteArray))) ∧ Below W.heap.size W w' from HHD.out W))
       clear HKD HHD hrd
       go_wp2_with fail
       go_at_call 117
       refine (HKD2.out _).mono ?_
       rintro e w4 ⟨q4, d4, rfl, hv4, hu4, hb4⟩
       have HR4 := hid (HR3.out.below hb4 HR3.out.lt (Nat.le_refl _))
       have HX4 := hid (HX3.out.trans (Px.below hb4 (Nat.le_refl _)))
       clear hv4 hu4 hb4
       go_wp2_with fail
       go_at_call 103
       refine (HHD2.out _).mono ?_
       rintro e w5 ⟨rfl, hb5⟩
       have hp5 : Px b w4 w5 := Px.below hb5 (Nat.le_refl _)
       have HR5 := hid (HR4.out.below hb5 HR4.out.lt (Nat.le_refl _))
       have HX5 := hid (HX4.out.trans hp5)
       clear hb5 hp5
       have sc0_5 := HX5.out.cell (b := b) (by show w.heap.size ≠ b; omega) SB0.out
       have sc1_5 := HX5.out.cell (b := b) (by show w.heap.size ≠ b; omega) SB1.out
       go_wp2_with fail
       go_at_call 40
       refine (rof (HR5.out.alloc _) (by omega) w5.heap.size 2 2 1 bitL (bii w5) (by omega) (by omega) (by have := HR5.out.lt; omega) bil).mono ?_
       rintro e w6 ⟨s6, rfl, hs6, hr6, hp6⟩
       have HR6 := hid hr6
       have HX6 := hid ((HX5.out.alloc _).trans hp6)
       have HS6 := hid hs6
       clear hr6 hp6 hs6
       go_wp2_with fail
       go_ret
       exact ⟨_, rfl, by have := HS6.out; have := HG0.out; omega, HR6.out.le (by have := HG0.out; omega), HPX.out _ (HX1.out.trans HX6.out)⟩
      | fn x y =>
       have HKD := hid (fun W => (spc want hwz W).mono fun e w' h => lwk h)
       have HHD := hid (fun W => spe want hwz W)
       rw [hrd] at HKD HHD
       have HKD2 := hid (fun W => (show Calls Tryz.prog 117 #[.string want] W (KdPost [x, y] 2 true W) from HKD.out W))
       have HHD2 := hid (fun W => (show Calls Tryz.prog 103 #[.string want] W fun e w' => e = .returned (.string (({ data := #[62] } : ByteArray))) ∧ Below W.heap.size W w' from HHD.out W))
       clear HKD HHD hrd
       go_wp2_with fail
       go_at_call 117
       refine (HKD2.out _).mono ?_
       rintro e w4 ⟨q4, d4, rfl, hv4, hu4, hb4⟩
       have HR4 := hid (HR3.out.below hb4 HR3.out.lt (Nat.le_refl _))
       have HX4 := hid (HX3.out.trans (Px.below hb4 (Nat.le_refl _)))
       clear hv4 hu4 hb4
       go_wp2_with fail
       go_at_call 103
       refine (HHD2.out _).mono ?_
       rintro e w5 ⟨rfl, hb5⟩
       have hp5 : Px b w4 w5 := Px.below hb5 (Nat.le_refl _)
       have HR5 := hid (HR4.out.below hb5 HR4.out.lt (Nat.le_refl _))
       have HX5 := hid (HX4.out.trans hp5)
       clear hb5 hp5
       have sc0_5 := HX5.out.cell (b := b) (by show w.heap.size ≠ b; omega) SB0.out
       have sc1_5 := HX5.out.cell (b := b) (by show w.heap.size ≠ b; omega) SB1.out
       go_wp2_with fail
       go_at_call 40
       refine (rof (HR5.out.alloc _) (by omega) w5.heap.size 2 2 1 bitL (bii w5) (by omega) (by omega) (by have := HR5.out.lt; omega) bil).mono ?_
       rintro e w6 ⟨s6, rfl, hs6, hr6, hp6⟩
       have HR6 := hid hr6
       have HX6 := hid ((HX5.out.alloc _).trans hp6)
       have HS6 := hid hs6
       clear hr6 hp6 hs6
       go_wp2_with fail
       go_ret
       exact ⟨_, rfl, by have := HS6.out; have := HG0.out; omega, HR6.out.le (by have := HG0.out; omega), HPX.out _ (HX1.out.trans HX6.out)⟩
      | choice x y =>
       have HKD := hid (fun W => (spc want hwz W).mono fun e w' h => lwk h)
       have HHD := hid (fun W => spe want hwz W)
       rw [hrd] at HKD HHD
       have HKD2 := hid (fun W => (show Calls Tryz.prog 117 #[.string want] W (KdPost [x, y] 2 true W) from HKD.out W))
       have HHD2 := hid (fun W => (show Calls Tryz.prog 103 #[.string want] W fun e w' => e = .returned (.string (({ data := #[38] } : ByteArray))) ∧ Below W.heap.size W w' from HHD.out W))
       clear HKD HHD hrd
       go_wp2_with fail
       go_at_call 117
       refine (HKD2.out _).mono ?_
       rintro e w4 ⟨q4, d4, rfl, hv4, hu4, hb4⟩
       have HR4 := hid (HR3.out.below hb4 HR3.out.lt (Nat.le_refl _))
       have HX4 := hid (HX3.out.trans (Px.below hb4 (Nat.le_refl _)))
       clear hv4 hu4 hb4
       go_wp2_with fail
       go_at_call 103
       refine (HHD2.out _).mono ?_
       rintro e w5 ⟨rfl, hb5⟩
       have hp5 : Px b w4 w5 := Px.below hb5 (Nat.le_refl _)
       have HR5 := hid (HR4.out.below hb5 HR4.out.lt (Nat.le_refl _))
       have HX5 := hid (HX4.out.trans hp5)
       clear hb5 hp5
       have sc0_5 := HX5.out.cell (b := b) (by show w.heap.size ≠ b; omega) SB0.out
       have sc1_5 := HX5.out.cell (b := b) (by show w.heap.size ≠ b; omega) SB1.out
       go_wp2_with fail
       go_at_call 40
       refine (rof (HR5.out.alloc _) (by omega) w5.heap.size 2 2 1 bitL (bii w5) (by omega) (by omega) (by have := HR5.out.lt; omega) bil).mono ?_
       rintro e w6 ⟨s6, rfl, hs6, hr6, hp6⟩
       have HR6 := hid hr6
       have HX6 := hid ((HX5.out.alloc _).trans hp6)
       have HS6 := hid hs6
       clear hr6 hp6 hs6
       go_wp2_with fail
       go_ret
       exact ⟨_, rfl, by have := HS6.out; have := HG0.out; omega, HR6.out.le (by have := HG0.out; omega), HPX.out _ (HX1.out.trans HX6.out)⟩
      | pair x y =>
       have HXY := hid (HVH.out x y hrd)
       have hgg := HGP.out x.text.size y.text.size want.size (by rw [lwt hrd, tx_pair]; omega)
       rw [HGE.out] at hgg
       have HKD := hid (fun W => (spc want hwz W).mono fun e w' h => lwk h)
       have HHD := hid (fun W => spe want hwz W)
       rw [hrd] at HKD HHD
       have HKD2 := hid (fun W => (show Calls Tryz.prog 117 #[.string want] W (KdPost [x, y] 2 true W) from HKD.out W))
       have HHD2 := hid (fun W => (show Calls Tryz.prog 103 #[.string want] W fun e w' => e = .returned (.string (({ data := #[42] } : ByteArray))) ∧ Below W.heap.size W w' from HHD.out W))
       clear HKD HHD hrd
       go_wp2_with fail
       go_at_call 117
       refine (HKD2.out _).mono ?_
       rintro e w4 ⟨q4, d4, rfl, hv4, hu4, hb4⟩
       obtain ⟨g0, o0, hbo, hc0_4⟩ := hv4 0 (.string x.text) rfl
       subst hbo
       have hc0_4 : w4.cell? ⟨g0, o0, none⟩ = some (.string x.text) := hc0_4
       obtain ⟨g1, o1, hbo1, hc1_4⟩ := hv4 1 (.string y.text) rfl
       obtain ⟨rfl, rfl⟩ : g0 = g1 ∧ o0 = o1 := by simpa using hbo1
       clear hbo1
       have HR4 := hid (HR3.out.below hb4 HR3.out.lt (Nat.le_refl _))
       have HX4 := hid (HX3.out.trans (Px.below hb4 (Nat.le_refl _)))
       clear hv4 hu4 hb4
       go_wp2_with fail
       go_at_call 103
       refine (HHD2.out _).mono ?_
       rintro e w5 ⟨rfl, hb5⟩
       have hp5 : Px b w4 w5 := Px.below hb5 (Nat.le_refl _)
       have hc0_5 := hp5.cell (rd_ne1 HR4.out hc0_4) hc0_4
       have hc1_5 := hp5.cell (rd_ne1 HR4.out hc1_4) hc1_4
       have HR5 := hid (HR4.out.below hb5 HR4.out.lt (Nat.le_refl _))
       have HX5 := hid (HX4.out.trans hp5)
       clear hb5 hp5
       have sc0_5 := HX5.out.cell (b := b) (by show w.heap.size ≠ b; omega) SB0.out
       have sc1_5 := HX5.out.cell (b := b) (by show w.heap.size ≠ b; omega) SB1.out
       have HB5 := hid (show PtW w5 w.heap.size p q i c e g0 o0 x.text y.text from ⟨sc0_5, sc1_5, hc0_5, hc1_5⟩)
       have HNE := hid (show w.heap.size ≠ b by omega)
       have HB5d := hid (HB5.out.px HR5.out HNE.out (pxr b w5))
       have HR5d := hid HR5.out.drew
       have HX5d := hid (HX5.out.trans (pxr b w5))
       have HC1 := hid (fun W r' (hr : Rd W b r') (hx : Px b wr W) (hl : r' + g x.text.size ≤ 400000000) (hb : PtW W w.heap.size p q i c e g0 o0 x.text y.text) => (HXY.out.1 r' W p q i c e ns ts (d : Int) (HSC.out W hx) hr hl hn6 rfl).mono fun en w' h => (show DrawnK b (r' + g x.text.size) (g x.text.size) W w.heap.size p q i c e g0 o0 x.text y.text en w' from h.keep hb hr HNE.out))
       have HC2 := hid (fun W r' (hr : Rd W b r') (hx : Px b wr W) (hl : r' + g y.text.size ≤ 400000000) (hb : PtW W w.heap.size p q i c e g0 o0 x.text y.text) => (HXY.out.2 r' W p q i c e ns ts (d : Int) (HSC.out W hx) hr hl hn6 rfl).mono fun en w' h => (show DrawnK b (r' + g y.text.size) (g y.text.size) W w.heap.size p q i c e g0 o0 x.text y.text en w' from h.keep hb hr HNE.out))
       obtain ⟨GX, hGX⟩ : ∃ GX, g x.text.size = GX := ⟨_, rfl⟩
       obtain ⟨GY, hGY⟩ : ∃ GY, g y.text.size = GY := ⟨_, rfl⟩
       rw [hGX] at HC1 hgg
       rw [hGY] at HC2 hgg
       clear hGX hGY
       go_wp2_with fail
       go_region_held3 (fun w' => w'.cell? ⟨w.heap.size, 0, none⟩ = some (.slice p i c) ∧ w'.cell? ⟨w.heap.size, 1, none⟩ = some (.slice q i e) ∧ w'.cell? ⟨g0, o0, none⟩ = some (.string x.text) ∧ w'.cell? ⟨g0, o0 + 1, none⟩ = some (.string y.text))
        (first | exact ⟨HB5d.out.c0, HB5d.out.c1, HB5d.out.k0, HB5d.out.k1⟩ | exact ⟨HB6.out.c0, HB6.out.c1, HB6.out.k0, HB6.out.k1⟩ | exact ⟨HB7.out.c0, HB7.out.c1, HB7.out.k0, HB7.out.k1⟩)
        (first
          | (have _ := HR6
             go_at_call 114
             refine (HC2.out _ _ HR6.out HX6.out (by omega) HB6.out).mono ?_
             rintro e w7 ⟨s7, rfl, hs7, hr7, hp7, hb7⟩
             have hz7 : s7.size ≤ 400000000 := by omega
             have ta7 : ¬ 9223372036854775807 < 6 + s6.size + 1 + s7.size := by omega
             have tb7 : ¬ 9223372036854775807 < 6 + s6.size + 1 + s7.size + 1 := by omega
             have HR7 := hid hr7
             have HX7 := hid (HX6.out.trans hp7)
             have HS7 := hid hs7
             have HB7 := hid hb7
             clear hr7 hp7 hs7 hb7)
          | (go_at_call 114
             refine (HC1.out _ _ HR5d.out HX5d.out (by omega) HB5d.out).mono ?_
             rintro e w6 ⟨s6, rfl, hs6, hr6, hp6, hb6⟩
             have hz6 : s6.size ≤ 400000000 := by omega
             have ta6 : ¬ 9223372036854775807 < 6 + s6.size := by omega
             have tb6 : ¬ 9223372036854775807 < 6 + s6.size + 1 := by omega
             have HR6 := hid hr6
             have HX6 := hid (HX5d.out.trans hp6)
             have HS6 := hid hs6
             have HB6 := hid hb6
             clear hr6 hp6 hs6 hb6))
       all_goals
        go_wp2_with fail
        go_ret
        refine ⟨_, rfl, ?_, HR7.out.le (by omega), HPX.out _ (HX1.out.trans HX7.out)⟩
        have := HS6.out
        have := HS7.out
        simp only [ByteArray.size_append, bsz]; simp; omega
      | thunk x =>
       have HXT := hid (HMH.out x hrd)
       have hgg := HGU.out x.text.size want.size (by rw [lwt hrd, tx_thunk]; omega)
       rw [HGE.out] at hgg
       have HKD := hid (fun W => (spc want hwz W).mono fun e w' h => lwk h)
       have HHD := hid (fun W => spe want hwz W)
       rw [hrd] at HKD HHD
       have HKD2 := hid (fun W => (show Calls Tryz.prog 117 #[.string want] W (KdPost [x] 1 true W) from HKD.out W))
       have HHD2 := hid (fun W => (show Calls Tryz.prog 103 #[.string want] W fun e w' => e = .returned (.string (({ data := #[117] } : ByteArray))) ∧ Below W.heap.size W w' from HHD.out W))
       clear HKD HHD hrd
       go_wp2_with fail
       go_at_call 117
       refine (HKD2.out _).mono ?_
       rintro e w4 ⟨q4, d4, rfl, hv4, hu4, hb4⟩
       obtain ⟨g0, o0, hbo, hc0_4⟩ := hv4 0 (.string x.text) rfl
       subst hbo
       have hc0_4 : w4.cell? ⟨g0, o0, none⟩ = some (.string x.text) := hc0_4
       have HR4 := hid (HR3.out.below hb4 HR3.out.lt (Nat.le_refl _))
       have HX4 := hid (HX3.out.trans (Px.below hb4 (Nat.le_refl _)))
       clear hv4 hu4 hb4
       go_wp2_with fail
       go_at_call 103
       refine (HHD2.out _).mono ?_
       rintro e w5 ⟨rfl, hb5⟩
       have hp5 : Px b w4 w5 := Px.below hb5 (Nat.le_refl _)
       have hc0_5 := hp5.cell (rd_ne1 HR4.out hc0_4) hc0_4
       have HR5 := hid (HR4.out.below hb5 HR4.out.lt (Nat.le_refl _))
       have HX5 := hid (HX4.out.trans hp5)
       clear hb5 hp5
       have sc0_5 := HX5.out.cell (b := b) (by show w.heap.size ≠ b; omega) SB0.out
       have sc1_5 := HX5.out.cell (b := b) (by show w.heap.size ≠ b; omega) SB1.out
       have HNE := hid (show w.heap.size ≠ b by omega)
       have d50 := (pxr b w5).cell HNE.out sc0_5
       have d51 := (pxr b w5).cell HNE.out sc1_5
       have d52 := (pxr b w5).cell (rd_ne1 HR5.out hc0_5) hc0_5
       have HKC := hid (And.intro d50 (And.intro d51 d52))
       have HR5d := hid HR5.out.drew
       have HX5d := hid (HX5.out.trans (pxr b w5))
       have HC1 := hid (fun W r' (hr : Rd W b r') (hx : Px b wr W) (hl : r' + f x.text.size ≤ 400000000) (hb : W.cell? ⟨w.heap.size, 0, none⟩ = some (.slice p i c) ∧ W.cell? ⟨w.heap.size, 1, none⟩ = some (.slice q i e) ∧ W.cell? ⟨g0, o0, none⟩ = some (.string x.text)) => (HXT.out r' W p q i c e ns ts (d : Int) (HSC.out W hx) hr hl hn6 rfl).mono fun en w' h => (show (∃ s : ByteArray, en = .returned (.string s) ∧ s.size ≤ f x.text.size ∧ Rd w' b (r' + f x.text.size) ∧ Px b W w' ∧ (w'.cell? ⟨w.heap.size, 0, none⟩ = some (.slice p i c) ∧ w'.cell? ⟨w.heap.size, 1, none⟩ = some (.slice q i e) ∧ w'.cell? ⟨g0, o0, none⟩ = some (.string x.text))) from by
        obtain ⟨s, he, hs, hr', hp⟩ := h
        exact ⟨s, he, hs, hr', hp, hp.cell HNE.out hb.1, hp.cell HNE.out hb.2.1, hp.cell (rd_ne1 hr hb.2.2) hb.2.2⟩))
       obtain ⟨GX, hGX⟩ : ∃ GX, f x.text.size = GX := ⟨_, rfl⟩
       rw [hGX] at HC1 hgg
       clear hGX d50 d51 d52
       go_wp2_with fail
       go_region_held3 (fun w' => w'.cell? ⟨w.heap.size, 0, none⟩ = some (.slice p i c) ∧ w'.cell? ⟨w.heap.size, 1, none⟩ = some (.slice q i e) ∧ w'.cell? ⟨g0, o0, none⟩ = some (.string x.text))
        (first | exact HKC.out | exact HK6.out)
        (first
          | (go_at_call 83
             refine (HC1.out _ _ HR5d.out HX5d.out (by omega) HKC.out).mono ?_
             rintro e w6 ⟨s6, rfl, hs6, hr6, hp6, hk6⟩
             have hz6 : s6.size ≤ 400000000 := by omega
             have ta6 : ¬ 9223372036854775807 < 7 + s6.size := by omega
             have tb6 : ¬ 9223372036854775807 < 7 + s6.size + 1 := by omega
             have HR6 := hid hr6
             have HX6 := hid (HX5d.out.trans hp6)
             have HS6 := hid hs6
             have HK6 := hid hk6
             clear hr6 hp6 hs6 hk6))
       all_goals
        go_wp2_with fail
        go_ret
        refine ⟨_, rfl, ?_, HR6.out.le (by omega), HPX.out _ (HX1.out.trans HX6.out)⟩
        have := HS6.out
        simp only [ByteArray.size_append, bsz]; simp; omega
    ·have hx1 : 0 < x3 := by omega
     have HR3 := hid hr3
     have HX3 := hid hp3
     clear hr3 hp3 hx3b
     go_wp2_with fail
     go_at_call 41
     refine (pic HR3.out (by omega) (m : Int) (by omega)).mono ?_
     rintro e w4 ⟨x4, rfl, hx4a, hx4b, _, hr4, hp4⟩
     have hx4c : x4 < (m : Int) := hx4b (by omega)
     obtain ⟨a, rfl⟩ := Int.eq_ofNat_of_zero_le hx4a
     obtain ⟨s, hs⟩ : ∃ s, fl[a]? = some s := ⟨_, List.getElem?_eq_getElem (by rw [hfl]; omega)⟩
     obtain ⟨g5, o5, hbo5, hc5⟩ := HFV.out a (.string s) (by rw [List.getElem?_map, hs]; rfl)
     subst hbo5
     have hne : (⟨g5, o5 + a, none⟩ : Addr).block ≠ b := rd_ne1 HR1.out hc5
     have hc5b := hp4.cell hne (HX3.out.cell hne hc5)
     have hs60 := hsm.out s (List.mem_of_getElem? hs)
     have HR4 := hid hr4
     have HX4 := hid (HX1.out.trans (HX3.out.trans hp4))
     clear hr4 hp4 hx4b hc5 hs
     go_wp2_with fail
     go_ret
     exact ⟨_, rfl, by have := HG0.out; omega, HR4.out.le (by have := HG0.out; omega), HPX.out _ HX4.out⟩
theorem l91V_any {b d : Nat} {want : ByteArray} (hS : mV d want.size ≤ 400000000)
    (hM : ∀ k : Ty, readTy want = some (.thunk k) → Ter 83 b d k.text (mC d k.text.size))
    (hV : ∀ x y : Ty, readTy want = some (.pair x y) → Ter 114 b d x.text (mV d x.text.size) ∧ Ter 114 b d y.text (mV d y.text.size)) :
    Ter 114 b d want (mV d want.size) :=
 l91V_gen (g := mV d) (f := mC d) (fun n => by rw [mV_eq]; omega) (mV_pair d) (mV_thunk d) hS hM hV
end Go.Proofs.YtfogjomebcponaaGreatDoor
