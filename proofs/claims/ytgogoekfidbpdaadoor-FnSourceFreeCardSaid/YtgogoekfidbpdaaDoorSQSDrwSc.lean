/- Merged: DrwSc. -/
import Derived.Deep.RegionHeld3
import Derived.Test.YtgogoekfidbpdaaDoorSQ16
import Derived.Test.YtgogoekfidbpdaaDoorSQSDrwV0
import Derived.Test.YtgogoekfidbpdaaDoorSQ13
namespace Go.Proofs.YtgogoekfidbpdaaDoor
open Go.RowKit

/-- A scope in memory: names and types, of texts that are small. -/
structure Scp (w : World) (p q : Option Addr) (n c d : Nat) (ns ts : List ByteArray) : Prop where
  a : SV w p n c ns
  b : SV w q n d ts
  n20 : n ≤ 20
  na : ∀ s ∈ ns, s.size ≤ 60
theorem Scp.kept {w w' : World} {p q : Option Addr} {n c d : Nat} {ns ts : List ByteArray} (h : Scp w p q n c d ns ts) (hk : Kept w w') : Scp w' p q n c d ns ts :=
  ⟨h.a.kept hk, h.b.kept hk, h.n20, h.na⟩
/-- A reader's block holds no text. -/
theorem rd_ne1 {w : World} {b q : Nat} {a : Addr} {s : ByteArray} (hr : Rd w b q) (h : w.cell? a = some (.string s)) : a.block ≠ b := by
  intro e
  obtain ⟨p, n, c, zs, k, hb, _⟩ := hr
  unfold World.cell? at h
  rw [e, hb] at h
  simp only at h
  split at h
  · cases h
  · have hs := Array.getElem?_eq_some_iff.1 h
    obtain ⟨hi, hv⟩ := hs
    have h2 : a.off < 2 := by simpa using hi
    have : a.off = 0 ∨ a.off = 1 := by omega
    rcases this with h0 | h0
    · rw [h0] at h; simp at h
    · rw [h0] at h; simp at h
theorem sv_px1 {w w' : World} {b q : Nat} {p : Option Addr} {n c : Nat} {l : List ByteArray} (h : SV w p n c l) (hr : Rd w b q) (hp : Px b w w') : SV w' p n c l :=
  ⟨h.1, h.2.1, fun i s hs => by
    obtain ⟨g, he, hc⟩ := h.2.2 i s hs
    exact ⟨g, he, hp.cell (rd_ne1 hr hc) hc⟩⟩
theorem Scp.px {w w' : World} {b r : Nat} {p q : Option Addr} {n c d : Nat} {ns ts : List ByteArray} (h : Scp w p q n c d ns ts) (hr : Rd w b r) (hp : Px b w w') : Scp w' p q n c d ns ts :=
  ⟨sv_px1 h.a hr hp, sv_px1 h.b hr hp, h.n20, h.na⟩
/-- What a scope with one name more is. -/
def MorePost (ns ts : List ByteArray) (n : Nat) (w : World) (e : Ending) (w' : World) : Prop :=
  ∃ p q c d, e = .returned (.agg #[.slice p (n + 1) c, .slice q (n + 1) d]) ∧ Scp w' p q (n + 1) c d ns ts ∧ Below w.heap.size w w'

theorem box2f {w : World} {b : Nat} {x y : Value} {t : TypeId} (h : w.heap[b]? = some (.cells #[x, y] t (0, 0))) :
    (w.cell? ⟨b, 0, none⟩ = some x ∧ w.cell? ⟨b, 1, none⟩ = some y) ∧ (w.frozen? ⟨b, 0, none⟩ = false ∧ w.frozen? ⟨b, 1, none⟩ = false) ∧ b < w.heap.size := by
  refine ⟨?_, ?_, lt_of_block h⟩
  · simp [World.cell?, h]
  · simp [World.frozen?, h]
/-- Kept through allocs and a drawn order. -/
theorem kept_drew {w w' : World} (h : Kept w w') (hle : w.heap.size ≤ w'.heap.size) : Kept w w'.drew := h.below (Below.refl w'.heap.size w').drew hle
theorem below_drew2 {B : Nat} {w w' : World} (h : Below B w w') : Below B w w'.drew := ⟨h.os, h.tape, h.output, h.size, h.block⟩

/-- What is known of a world behind the scope's boxes. -/
structure MoreW (w W1 : World) (p q : Option Addr) (n c d : Nat) (W : World) : Prop where
  below : Below W1.heap.size W1 W
  c0 : W.cell? ⟨w.heap.size, 0, none⟩ = some (.slice p n c)
  c1 : W.cell? ⟨w.heap.size, 1, none⟩ = some (.slice q n d)
  r : W.heap[w.heap.size + 1]? = some (.cells #[.slice none 0 0, .slice none 0 0] 36 (0, 0))
  kept : Kept w W
theorem MoreW.step {w W1 : World} {p q : Option Addr} {n c d : Nat} {W W' : World} (h : MoreW w W1 p q n c d W) (hz : w.heap.size + 1 < W.heap.size) (hb : Below W.heap.size W W') : MoreW w W1 p q n c d W' :=
  ⟨h.below.trans (hb.mono h.below.size), (hb.cell (p := ⟨w.heap.size, 0, none⟩) (by show w.heap.size < _; omega)).trans h.c0, (hb.cell (p := ⟨w.heap.size, 1, none⟩) (by show w.heap.size < _; omega)).trans h.c1, (hb.block _ hz).trans h.r, h.kept.below hb (by omega)⟩
theorem MoreW.lt {w W1 : World} {p q : Option Addr} {n c d : Nat} {W : World} (h : MoreW w W1 p q n c d W) : w.heap.size + 1 < W.heap.size := lt_of_block h.r
theorem MoreW.drew {w W1 : World} {p q : Option Addr} {n c d : Nat} {W : World} (h : MoreW w W1 p q n c d W) : MoreW w W1 p q n c d W.drew := h.step h.lt (Below.refl _ _).drew
theorem MoreW.alloc {w W1 : World} {p q : Option Addr} {n c d : Nat} {W : World} (h : MoreW w W1 p q n c d W) (o : Obj) : MoreW w W1 p q n c d (W.alloc o) := h.step h.lt ((Below.refl _ _).alloc (Nat.le_refl _) o)
theorem set_cell_ne {w : World} {a : Addr} {b i : Nat} {v x : Value} (hne : a.block ≠ b) (h : w.cell? a = some x) : (w.setCell ⟨b, i, none⟩ v).cell? a = some x :=
  (World.cell?_of_block (w := w) (Below.heap_setCell _ _ _ _ hne)).trans h
theorem sv_box {w : World} {b m c : Nat} {u v : Value} {t : TypeId} {p : Option Addr} {l : List ByteArray} (hb : w.heap[b]? = some (.cells #[.slice none 0 0, .slice none 0 0] t (0, 0))) (h : SV w p m c l) : SV ((w.setCell ⟨b, 0, none⟩ u).setCell ⟨b, 1, none⟩ v) p m c l :=
  ⟨h.1, h.2.1, fun i s hs => by
    obtain ⟨g, he, hc⟩ := h.2.2 i s hs
    have hne : g ≠ b := by
      intro e
      subst e
      unfold World.cell? at hc
      rw [hb] at hc
      simp only at hc
      split at hc
      · cases hc
      · obtain ⟨hi, hv⟩ := Array.getElem?_eq_some_iff.1 hc
        have h2 : i < 2 := by simpa using hi
        have : i = 0 ∨ i = 1 := by omega
        rcases this with h0 | h0
        · subst h0; simp at hc
        · subst h0; simp at hc
    exact ⟨g, he, set_cell_ne (a := ⟨g, i, none⟩) hne (set_cell_ne (a := ⟨g, i, none⟩) hne hc)⟩⟩
theorem below_box {B : Nat} {w w5 : World} {b : Nat} {u v : Value} (h : Below B w w5) (hb : B ≤ b) : Below B w ((w5.setCell ⟨b, 0, none⟩ u).setCell ⟨b, 1, none⟩ v) :=
  ⟨h.os, h.tape, h.output, Nat.le_trans h.size (by simp [World.setCell]), fun k hk => ((Below.heap_setCell _ _ _ _ (show k ≠ b by omega)).trans (Below.heap_setCell _ _ _ _ (show k ≠ b by omega))).trans (h.block k hk)⟩
theorem lit_at {w : World} {g : Nat} {x : ByteArray} {t : TypeId} (h : w.heap.size = g) : SV (w.alloc (.cells #[.string x] t)) (some ⟨g, 0, none⟩) 1 1 [x] := by
  subst h; exact sv_lit w [x] 1 1 t rfl
theorem sv_alloc {w : World} {g n c : Nat} {l : List ByteArray} (h : SV w (some ⟨g, 0, none⟩) n c l) (o : Obj) : SV (w.alloc o) (some ⟨g, 0, none⟩) n c l := h.kept ((Kept.refl w).alloc (Nat.le_refl _) o)
theorem sv_drew {w : World} {g n c : Nat} {l : List ByteArray} (h : SV w (some ⟨g, 0, none⟩) n c l) : SV w.drew (some ⟨g, 0, none⟩) n c l := h.kept (Kept.of_below (Below.refl w.heap.size w).drew (Nat.le_refl _))
theorem sv_below {w w' : World} {g n c : Nat} {l : List ByteArray} (hb : Below w.heap.size w w') (h : SV w (some ⟨g, 0, none⟩) n c l) : SV w' (some ⟨g, 0, none⟩) n c l := h.kept (Kept.of_below hb (Nat.le_refl _))

set_option maxRecDepth 100000 in
set_option maxHeartbeats 8000000 in
theorem l91More_any {w : World} {p q : Option Addr} {n c d : Nat} {ns ts : List ByteArray} (h : Scp w p q n c d ns ts) (hn : n ≤ 19) (x k : ByteArray) (hx : x.size ≤ 60) :
    Calls Tryd.prog 27 #[.agg #[.slice p n c, .slice q n d], .string x, .string k] w (MorePost (ns ++ [x]) (ts ++ [k]) n w) := by
  have HS := hid h
  have hln := h.a.1
  have hlt := h.b.1
  have e1 : (ns ++ [x]).length = n + 1 := by rw [List.length_append, hln]; rfl
  have e2 : (ts ++ [k]).length = n + 1 := by rw [List.length_append, hlt]; rfl
  have b0 : ((w.alloc (.cells #[.slice p n c, .slice q n d] 36)).alloc (.cells #[.slice none 0 0, .slice none 0 0] 36)).heap[w.heap.size]? = some (.cells #[.slice p n c, .slice q n d] 36 (0, 0)) := by
    have h1 := heap_alloc_new w (.cells #[.slice p n c, .slice q n d] 36)
    exact ((Below.refl _ (w.alloc (.cells #[.slice p n c, .slice q n d] 36))).alloc (Nat.le_refl _) (.cells #[.slice none 0 0, .slice none 0 0] 36)).block _ (lt_of_block h1) |>.trans h1
  have b1 : ((w.alloc (.cells #[.slice p n c, .slice q n d] 36)).alloc (.cells #[.slice none 0 0, .slice none 0 0] 36)).heap[w.heap.size + 1]? = some (.cells #[.slice none 0 0, .slice none 0 0] 36 (0, 0)) := by
    have h1 := heap_alloc_new (w.alloc (.cells #[.slice p n c, .slice q n d] 36)) (.cells #[.slice none 0 0, .slice none 0 0] 36)
    rw [show (w.alloc (.cells #[.slice p n c, .slice q n d] 36)).heap.size = w.heap.size + 1 by simp] at h1
    exact h1
  have BB : Below w.heap.size w ((w.alloc (.cells #[.slice p n c, .slice q n d] 36)).alloc (.cells #[.slice none 0 0, .slice none 0 0] 36)) := (((Below.refl w.heap.size w).alloc (Nat.le_refl _) _).alloc (by simp) _)
  have M0 := hid (show MoreW w ((w.alloc (.cells #[.slice p n c, .slice q n d] 36)).alloc (.cells #[.slice none 0 0, .slice none 0 0] 36)) p q n c d ((w.alloc (.cells #[.slice p n c, .slice q n d] 36)).alloc (.cells #[.slice none 0 0, .slice none 0 0] 36)) from ⟨Below.refl _ _, (cells_of_pair b0).1, (cells_of_pair b0).2.1, b1, Kept.of_below BB (Nat.le_refl _)⟩)
  have HB0 := hid BB
  have HC1 := hid (fun W g (hm : MoreW w ((w.alloc (.cells #[.slice p n c, .slice q n d] 36)).alloc (.cells #[.slice none 0 0, .slice none 0 0] 36)) p q n c d W) (hs : SV W (some ⟨g, 0, none⟩) 1 1 [x]) => (l2With_any ns [x] p (some ⟨g, 0, none⟩) n 1 c 1 W (HS.out.a.kept hm.kept) hs (by omega) (by omega)).mono fun e w' hp => (show (∃ q1 k1, e = .returned (.slice q1 (n + 1) k1) ∧ SV w' q1 (n + 1) k1 (ns ++ [x]) ∧ MoreW w ((w.alloc (.cells #[.slice p n c, .slice q n d] 36)).alloc (.cells #[.slice none 0 0, .slice none 0 0] 36)) p q n c d w' ∧ Below W.heap.size W w') from by
    obtain ⟨q1, k1, he, ho, hb⟩ := hp.sv
    rw [e1] at he ho
    exact ⟨q1, k1, he, ho, hm.step hm.lt hb, hb⟩))
  have HC2 := hid (fun W g (hm : MoreW w ((w.alloc (.cells #[.slice p n c, .slice q n d] 36)).alloc (.cells #[.slice none 0 0, .slice none 0 0] 36)) p q n c d W) (hs : SV W (some ⟨g, 0, none⟩) 1 1 [k]) => (l2With_any ts [k] q (some ⟨g, 0, none⟩) n 1 d 1 W (HS.out.b.kept hm.kept) hs (by omega) (by omega)).mono fun e w' hp => (show (∃ q1 k1, e = .returned (.slice q1 (n + 1) k1) ∧ SV w' q1 (n + 1) k1 (ts ++ [k]) ∧ MoreW w ((w.alloc (.cells #[.slice p n c, .slice q n d] 36)).alloc (.cells #[.slice none 0 0, .slice none 0 0] 36)) p q n c d w' ∧ Below W.heap.size W w') from by
    obtain ⟨q1, k1, he, ho, hb⟩ := hp.sv
    rw [e2] at he ho
    exact ⟨q1, k1, he, ho, hm.step hm.lt hb, hb⟩))
  have a0 := M0.out.drew.c0
  have a1 := M0.out.drew.c1
  clear h b0 b1 BB
  go_enter Tryd.func27, Tryd.ntmps27
  go_wp2_with fail
  go_region_held3 (fun w' => w'.cell? ⟨w.heap.size, 0, none⟩ = some (.slice p n c) ∧ w'.cell? ⟨w.heap.size, 1, none⟩ = some (.slice q n d))
    (first | exact ⟨M0.out.drew.c0, M0.out.drew.c1⟩ | exact ⟨(MoreW.drew (MoreW.alloc M0.out _)).c0, (MoreW.drew (MoreW.alloc M0.out _)).c1⟩ | exact ⟨(MoreW.drew (MoreW.alloc (MoreW.alloc M0.out _) _)).c0, (MoreW.drew (MoreW.alloc (MoreW.alloc M0.out _) _)).c1⟩ | exact ⟨set_cell_ne (by simp) (set_cell_ne (by simp) HM5.out.c0), set_cell_ne (by simp) (set_cell_ne (by simp) HM5.out.c1)⟩ | exact ⟨HM5.out.c0, HM5.out.c1⟩ | exact ⟨HM4.out.c0, HM4.out.c1⟩ | exact ⟨(MoreW.alloc HM4.out _).c0, (MoreW.alloc HM4.out _).c1⟩ | exact ⟨(MoreW.drew (MoreW.alloc HM4.out _)).c0, (MoreW.drew (MoreW.alloc HM4.out _)).c1⟩ | (trace_state; fail))
    (first
      | (have _ := HO1
         go_at_call 39
         with_reducible (first
           | refine (HC2.out _ _ (MoreW.alloc HM4.out (.cells #[.string k] 9)) (lit_at rfl)).mono ?_
           | refine (HC2.out _ _ HM4.out (sv_below HB4.out (sv_drew (lit_at (by simp))))).mono ?_
           | refine (HC2.out _ _ HM4.out (sv_below HB4.out (sv_drew (sv_alloc (lit_at (by simp)) (.cells #[.string x] 9))))).mono ?_)
         rintro e w5 ⟨q2, k2, rfl, ho2, hm5, hb5⟩
         have HO2 := hid ho2
         have HM5 := hid hm5
         have HB5 := hid hb5
         obtain ⟨⟨c50, c51⟩, ⟨f50, f51⟩, l50⟩ := box2f hm5.r
         clear ho2 hm5 hb5)
      | (go_at_call 39
         with_reducible (first
           | refine (HC1.out _ _ (MoreW.drew (MoreW.alloc M0.out (.cells #[.string x] 9))) (sv_drew (lit_at (by simp)))).mono ?_
           | refine (HC1.out _ _ (MoreW.drew (MoreW.alloc (MoreW.alloc M0.out (.cells #[.string x] 9)) (.cells #[.string k] 9))) (sv_drew (sv_alloc (lit_at (by simp)) (.cells #[.string k] 9)))).mono ?_
           | refine (HC1.out _ _ (MoreW.drew (MoreW.alloc (MoreW.alloc M0.out (.cells #[.string k] 9)) (.cells #[.string x] 9))) (sv_drew (lit_at (by simp)))).mono ?_)
         rintro e w4 ⟨q1, k1, rfl, ho1, hm4, hb4⟩
         have HO1 := hid ho1
         have HM4 := hid hm4
         have HB4 := hid hb4
         clear ho1 hm4 hb4))
  all_goals
    go_wp2_with fail
    have hr5 := HM5.out.r
    have f1 := pair_setCell1 (u := .slice q2 (n + 1) k2) (pair_setCell0 (u := .slice q1 (n + 1) k1) hr5)
    obtain ⟨g0, g1, _, _⟩ := cells_of_pair f1
    have s1 : SV w5 q1 (n + 1) k1 (ns ++ [x]) := by
      first
      | exact HO1.out.kept (Kept.of_below HB5.out (Nat.le_refl _))
      | exact (HO1.out.kept ((Kept.refl w4).alloc (Nat.le_refl _) _)).kept (Kept.of_below HB5.out (Nat.le_refl _))
    have hbw := HB0.out.trans (HM5.out.below.mono HB0.out.size)
    refine bodyPost_ret (v := .agg #[.slice q1 (n + 1) k1, .slice q2 (n + 1) k2]) (by simp [results, Tryd.results27, go_sem, g0, g1]) rfl ?_
    refine ⟨q1, q2, k1, k2, rfl, ⟨sv_box hr5 s1, sv_box hr5 HO2.out, by omega, ?_⟩, below_box hbw (by omega)⟩
    intro s hs
    rcases List.mem_append.1 hs with hs | hs
    · exact HS.out.na s hs
    · simp at hs; subst hs; exact hx
theorem Drawn.le {b q q' S S' : Nat} {w w' : World} {e : Ending} (h : Drawn b q S w e w') (hq : q ≤ q') (hS : S ≤ S') : Drawn b q' S' w e w' := by
  obtain ⟨s, he, hs, hr, hp⟩ := h
  exact ⟨s, he, by omega, hr.le hq, hp⟩
/-- A scope with one name more. -/
def MoreC (b r : Nat) (wB : World) (C : World → Prop) (n : Nat) (ns ts : List ByteArray) (en : Ending) (w' : World) : Prop :=
  ∃ p q c d, en = .returned (.agg #[.slice p (n + 1) c, .slice q (n + 1) d]) ∧ (∀ W, Px b w' W → Scp W p q (n + 1) c d ns ts) ∧ Rd w' b r ∧ Px b wB w' ∧ C w'
theorem more_at {b : Nat} {wB wC : World} {p q : Option Addr} {n c e : Nat} {ns ts : List ByteArray} (hsc : ∀ W, Px b wC W → Scp W p q n c e ns ts) (hn : n ≤ 19) {C : World → Prop} (hC : ∀ W W' r', Rd W b r' → Px b W W' → C W → C W')
    (x k : ByteArray) (hx60 : x.size ≤ 60) (W : World) (r' : Nat) (hr : Rd W b r') (hx : Px b wC W) (hb : Px b wB W) (hc : C W) :
    Calls Tryd.prog 27 #[.agg #[.slice p n c, .slice q n e], .string x, .string k] W (MoreC b r' wB C n (ns ++ [x]) (ts ++ [k])) :=
  (l91More_any (hsc W hx) hn x k hx60).mono fun _ w' ⟨p1, q1, c1, d1, he, hs, hbel⟩ =>
    have hp : Px b W w' := Px.below hbel (Nat.le_refl _)
    have hr2 : Rd w' b r' := hr.below hbel hr.lt (Nat.le_refl _)
    ⟨p1, q1, c1, d1, he, fun _ hx2 => hs.px hr2 hx2, hr2, hb.trans hp, hC W w' r' hr hp hc⟩
/-- The cells of a scope. -/
def Cl0 (B : Nat) (p q : Option Addr) (n c e : Nat) (W : World) : Prop := W.cell? ⟨B, 0, none⟩ = some (.slice p n c) ∧ W.cell? ⟨B, 1, none⟩ = some (.slice q n e)
theorem Cl0.px {b B : Nat} (hB : B ≠ b) {p q : Option Addr} {n c e : Nat} (W W' : World) (r' : Nat) (_ : Rd W b r') (hp : Px b W W') (h : Cl0 B p q n c e W) : Cl0 B p q n c e W' := ⟨hp.cell hB h.1, hp.cell hB h.2⟩
theorem px_drewM (b : Nat) (W : World) : Px b W W.drew := Px.below (Below.refl W.heap.size W).drew (Nat.le_refl _)
end Go.Proofs.YtgogoekfidbpdaaDoor
